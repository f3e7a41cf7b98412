/-
  ColumnApart walked: types have names of their own, and no two columns have the same bytes. Conditions: the library's table of powers of ten reads as its initialiser lays it; numbers within their kinds.
-/
import Derived.Test.YtgdjeooiimjjcaaDoorClBack
import Derived.Test.YtgdjeooiimjjcaaDoorClNd
import Derived.Test.YtgdjeooiimjjcaaDoorClLives
import Derived.Test.YtgdjeooiimjjcaaDoorClCs
import Derived.Test.YtgdjeooiimjjcaaDoorClEq2
import Derived.Deep.RegionHeld3
namespace Go.Proofs.YtgdjeooiimjjcaaDoor
open Go.RowKit
set_option linter.unusedVariables false
set_option linter.unusedSimpArgs false

/-- What a writer returns, in one: bytes (none, where there is an error), the error. -/
theorem OutP.two {w w' : World} {ok : Bool} {l : List Int} {e : Ending} (h : OutP w (if ok = true then some l else none) e w') :
    ∃ ao n c, e = .returned (.tuple #[.slice ao n c, .int .i64 (if ok = true then 0 else 2)]) ∧ Bs w' ao n c (if ok = true then l else []) ∧ Below w.heap.size w w' := by
  cases ok
  · rw [if_neg (by decide)] at h ⊢
    rw [if_neg (by decide)]
    exact ⟨none, 0, 0, h.1, Bs.nought w', h.2⟩
  · rw [if_pos rfl] at h ⊢
    rw [if_pos rfl]
    obtain ⟨ao, n, c, e1, m, b⟩ := h
    exact ⟨ao, n, c, e1, m.bs, b⟩
theorem append_nil (p : Co) (w : World) (hK : CoK p) : Calls Tryd.prog 13 #[.slice none 0 0, .agg #[.string p.sc, .string p.ta, .string p.ot, .string p.na, .string p.on, .int .u16 p.ch, .int .u32 p.le, .int .u8 p.ty, .int .u16 p.fl, .int .u8 p.de]] w fun e w' =>
    ∃ ao n c, e = .returned (.tuple #[.slice ao n c, .int .i64 (if cOk p = true then 0 else 2)]) ∧ Bs w' ao n c (if cOk p = true then coB p else []) ∧ Below w.heap.size w w' := by
  have h := append_any none 0 0 [] p w (Bs.nought w) hK (by simp)
  rw [List.nil_append] at h
  exact h.mono fun _ _ z => z.two
theorem run_ld {o : Oper} {a : Act} {w : World} (ty : TypeId) (x : Operand) (ho : o.op = .load ty x) (g : Nat) (hx : a.eval x = .pointer (some ⟨g, 0, none⟩)) (cs : Array Value)
    (hl : (loadVar ty ⟨g, 0, none⟩).run Tryd.prog w = .ok (.agg cs) w) : (execOp a.eval o).run Tryd.prog w = .ok (.value (.agg cs)) w := by
  unfold execOp
  simp only [ho, hx, Instr.loadAt, Instr.sureAddr, Sem.run_bind, Sem.run_pure, Result.andThen_ok, hl]
/-- What stands through the whole: both columns in their blocks, nothing old changed. -/
structure Ct (w0 : World) (p q : Co) (w : World) : Prop where
  rp : w.heap[w0.heap.size]? = some (.cells #[.string p.sc, .string p.ta, .string p.ot, .string p.na, .string p.on, .int .u16 p.ch, .int .u32 p.le, .int .u8 p.ty, .int .u16 p.fl, .int .u8 p.de] 35 (0, 0))
  rq : w.heap[w0.heap.size + 1]? = some (.cells #[.string q.sc, .string q.ta, .string q.ot, .string q.na, .string q.on, .int .u16 q.ch, .int .u32 q.le, .int .u8 q.ty, .int .u16 q.fl, .int .u8 q.de] 35 (0, 0))
  bel : Below w0.heap.size w0 w
theorem Ct.later {w0 w w' : World} {p q : Co} (h : Ct w0 p q w) (hb : Below w.heap.size w w') : Ct w0 p q w' := ⟨row_later h.rp hb, row_later h.rq hb, bup h.bel hb⟩
theorem Ct.new (w : World) (p q : Co) : Ct w p q ((w.alloc (.cells #[.string p.sc, .string p.ta, .string p.ot, .string p.na, .string p.on, .int .u16 p.ch, .int .u32 p.le, .int .u8 p.ty, .int .u16 p.fl, .int .u8 p.de] 35)).alloc (.cells #[.string q.sc, .string q.ta, .string q.ot, .string q.na, .string q.on, .int .u16 q.ch, .int .u32 q.le, .int .u8 q.ty, .int .u16 q.fl, .int .u8 q.de] 35)) :=
  ⟨heap_alloc2_old w _ _, heap_alloc2_new w _ _, (below_alloc w _).trans ((below_alloc _ _).mono (by simp))⟩

set_option maxHeartbeats 16000000 in
set_option maxRecDepth 100000 in
theorem lawClApartA (t u : Int) (p q : Co) (w : World) (hv : Vars w) (ht : 0 ≤ t ∧ t < 256) (hu : 0 ≤ u ∧ u < 256) (hK : CoK p) (hL : CoK q) (qp : cOk p = false) :
    Calls Tryd.prog 5 #[.int .u8 t, .int .u8 u, .agg #[.string p.sc, .string p.ta, .string p.ot, .string p.na, .string p.on, .int .u16 p.ch, .int .u32 p.le, .int .u8 p.ty, .int .u16 p.fl, .int .u8 p.de], .agg #[.string q.sc, .string q.ta, .string q.ot, .string q.na, .string q.on, .int .u16 q.ch, .int .u32 q.le, .int .u8 q.ty, .int .u16 q.fl, .int .u8 q.de]] w fun e w' => e = .returned (.bool true) ∧ Below w.heap.size w w' := by
  obtain ⟨w1, hw1⟩ : ∃ z, z = (w.alloc (.cells #[.string p.sc, .string p.ta, .string p.ot, .string p.na, .string p.on, .int .u16 p.ch, .int .u32 p.le, .int .u8 p.ty, .int .u16 p.fl, .int .u8 p.de] 35)).alloc (.cells #[.string q.sc, .string q.ta, .string q.ot, .string q.na, .string q.on, .int .u16 q.ch, .int .u32 q.le, .int .u8 q.ty, .int .u16 q.fl, .int .u8 q.de] 35) := ⟨_, rfl⟩
  have S1 := hide (show Ct w p q w1 by rw [hw1]; exact Ct.new w p q)
  have HW := hide hw1
  have SZp := hide (show (Tryd.prog.info? 35).map (·.size) = some (#[.string p.sc, .string p.ta, .string p.ot, .string p.na, .string p.on, .int .u16 p.ch, .int .u32 p.le, .int .u8 p.ty, .int .u16 p.fl, .int .u8 p.de] : Array Value).size by kernel_rfl)
  have SZq := hide (show (Tryd.prog.info? 35).map (·.size) = some (#[.string q.sc, .string q.ta, .string q.ot, .string q.na, .string q.on, .int .u16 q.ch, .int .u32 q.le, .int .u8 q.ty, .int .u16 q.fl, .int .u8 q.de] : Array Value).size by kernel_rfl)
  have cL := hide (lives_any w1)
  have cS := hide (fun wx => small_any p wx)
  have cT := hide (fun wx => small_any q wx)
  have pA := hide (fun (wx : World) => append_nil p wx hK)
  have qA := hide (fun (wx : World) => append_nil q wx hL)
  have pM := hide (fun wx (h : Vars wx) => name_any t wx h ht.1 ht.2)
  have qM := hide (fun wx (h : Vars wx) => name_any u wx h hu.1 hu.2)
  have HN := hide (nm_eq ht.1 ht.2 hu.1 hu.2)
  obtain ⟨DD, hD, hEQ⟩ := eql_two p q
  have HI := hide (fun (h : cOk p = true) (k : cOk q = true) => (show decide (coB p = coB q) = DD by
    rw [Bool.eq_iff_iff, decide_eq_true_iff, hD]
    exact ⟨fun e => co_inj h hK k hL e, fun e => by rw [e]⟩))
  generalize coB p = P at *
  generalize coB q = Q at *
  generalize nmS t = NT at *
  generalize nmS u = NU at *
  obtain ⟨TU, hTU⟩ : ∃ z : Bool, z = (t == u) := ⟨_, rfl⟩
  rw [← hTU] at HN
  have HTU := hide hTU.symm
  have HV := hide hv
  clear hK hL hw1 hv hD ht hu hTU
  obtain ⟨E2, hE2⟩ : ∃ z : Int, z = if cOk q = true then 0 else 2 := ⟨_, rfl⟩
  obtain ⟨L2, hL2⟩ : ∃ z : List Int, z = if cOk q = true then Q else [] := ⟨_, rfl⟩
  simp only [← hE2, ← hL2] at qA
  simp only [qp, Bool.false_eq_true, if_false] at pA
  clear qp hE2 hL2 HI
  go_enter Tryd.func5, Tryd.ntmps5
  go_wp2_with fail
  rw [← unhide HW]
  refine (unhide cL).mono ?_
  rintro e w2 ⟨rfl, b⟩
  have S2 := hide ((unhide S1).later b)
  have R2 := hide (unhide S2).rp
  clear b cL S1 HW
  go_wp2_with (with_reducible show wpList Tryd.prog _ _ (Oper.mk _ (Op.load 35 _) _ _ _ none :: _) _ _; refine wpList_load_row rfl _ (.tmp 6) rfl (w.heap.size) (by simp [Act.eval, Act.put]) _ #[.string p.sc, .string p.ta, .string p.ot, .string p.na, .string p.on, .int .u16 p.ch, .int .u32 p.le, .int .u8 p.ty, .int .u16 p.fl, .int .u8 p.de] (0, 0) _ (unhide R2) Tryd.underlying35 rfl (unhide SZp) ?_)
  refine (unhide cS _).mono ?_
  rintro e w3 ⟨B, rfl, b⟩
  have S3 := hide ((unhide S2).later b)
  clear b cS S2 R2
  cases B
  · go_wp2_with fail
    go_ret
    exact ⟨rfl, (unhide S3).bel⟩
  have k0 := row_cell (unhide S3).rq (j := 0) (v := .string q.sc) rfl
  have k1 := row_cell (unhide S3).rq (j := 1) (v := .string q.ta) rfl
  have k2 := row_cell (unhide S3).rq (j := 2) (v := .string q.ot) rfl
  have k3 := row_cell (unhide S3).rq (j := 3) (v := .string q.na) rfl
  have k4 := row_cell (unhide S3).rq (j := 4) (v := .string q.on) rfl
  have k5 := row_cell (unhide S3).rq (j := 5) (v := .int .u16 q.ch) rfl
  have k6 := row_cell (unhide S3).rq (j := 6) (v := .int .u32 q.le) rfl
  have k7 := row_cell (unhide S3).rq (j := 7) (v := .int .u8 q.ty) rfl
  have k8 := row_cell (unhide S3).rq (j := 8) (v := .int .u16 q.fl) rfl
  have k9 := row_cell (unhide S3).rq (j := 9) (v := .int .u8 q.de) rfl
  go_wp2_with fail
  refine (unhide cT _).mono ?_
  rintro e w4 ⟨B, rfl, b⟩
  have S4 := hide ((unhide S3).later b)
  have R4 := hide (unhide S4).rp
  clear b cT S3 k0 k1 k2 k3 k4 k5 k6 k7 k8 k9
  cases B
  · go_wp2_with fail
    go_ret
    exact ⟨rfl, (unhide S4).bel⟩
  go_wp2_with (with_reducible show wpList Tryd.prog _ _ (Oper.mk _ (Op.load 35 _) _ _ _ none :: _) _ _; refine wpList_load_row rfl _ (.tmp 6) rfl (w.heap.size) (by simp [Act.eval, Act.put]) _ #[.string p.sc, .string p.ta, .string p.ot, .string p.na, .string p.on, .int .u16 p.ch, .int .u32 p.le, .int .u8 p.ty, .int .u16 p.fl, .int .u8 p.de] (0, 0) _ (unhide R4) Tryd.underlying35 rfl (unhide SZp) ?_)
  refine (unhide pA _).mono ?_
  rintro e w5 ⟨xo, xn, xc, rfl, hx, b⟩
  have S5 := hide ((unhide S4).later b)
  have R5 := hide (unhide S5).rq
  have X5 := hide hx
  clear b pA S4 R4 hx
  go_wp2_with (with_reducible show wpList Tryd.prog _ _ (Oper.mk _ (Op.load 35 _) _ _ _ none :: _) _ _; refine wpList_load_row rfl _ (.tmp 7) rfl (w.heap.size + 1) (by simp [Act.eval, Act.put]) _ #[.string q.sc, .string q.ta, .string q.ot, .string q.na, .string q.on, .int .u16 q.ch, .int .u32 q.le, .int .u8 q.ty, .int .u16 q.fl, .int .u8 q.de] (0, 0) _ (unhide R5) Tryd.underlying35 rfl (unhide SZq) ?_)
  refine (unhide qA _).mono ?_
  rintro e w6 ⟨yo, yn, yc, rfl, hy, b⟩
  have S6 := hide ((unhide S5).later b)
  have X6 := hide ((unhide X5).later b)
  have Y6 := hide hy
  clear b qA S5 R5 hy X5
  have KV := hide (fun (w' : World) (hb : Below w6.heap.size w6 w') => (unhide HV).later ((unhide S6).later hb).bel)
  have KX := hide (fun (w' : World) (hb : Below w6.heap.size w6 w') => sameBytes_any xo xn xc _ yo yn yc _ w' ((unhide X6).later hb) ((unhide Y6).later hb))
  have htu := unhide HTU
  have hnm := unhide HN
  have bz := below_drew w6
  go_wp2_with fail
  refine wp_region_held_drew (S := fun _ => True) (by kernel_rfl) trivial (fun hHeld => ?_)
  refine wpAnyH_take (i := 0) (oi := { dst := some 33, op := Op.move (Operand.tmp 0), type := 5, pos := "law.go:116", after := #[], guard := none }) (v := .int .u8 t) rfl (by kernel_rfl) (by kernel_rfl) (by kernel_rfl) (fun _ _ _ h => h) (Or.inl ⟨by rfl, ?_⟩) trivial ?_
  · intro wq hSw; go_simp
  try simp only [Act.put, List.setIfInBounds_toArray, List.set_cons_zero, List.set_cons_succ]
  refine wpAnyH_take (i := 2) (oi := { dst := some 35, op := Op.move (Operand.tmp 1), type := 5, pos := "law.go:116", after := #[], guard := none }) (v := .int .u8 u) rfl (by kernel_rfl) (by kernel_rfl) (by kernel_rfl) (fun _ _ _ h => h) (Or.inl ⟨by rfl, ?_⟩) trivial ?_
  · intro wq hSw; go_simp
  try simp only [Act.put, List.setIfInBounds_toArray, List.set_cons_zero, List.set_cons_succ]
  refine wpAnyH_take (i := 5) (oi := { dst := some 38, op := Op.move (Operand.tmp 0), type := 5, pos := "law.go:116", after := #[], guard := none }) (v := .int .u8 t) rfl (by kernel_rfl) (by kernel_rfl) (by kernel_rfl) (fun _ _ _ h => h) (Or.inl ⟨by rfl, ?_⟩) trivial ?_
  · intro wq hSw; go_simp
  try simp only [Act.put, List.setIfInBounds_toArray, List.set_cons_zero, List.set_cons_succ]
  refine wpAnyH_take (i := 6) (oi := { dst := some 39, op := Op.move (Operand.tmp 1), type := 5, pos := "law.go:116", after := #[], guard := none }) (v := .int .u8 u) rfl (by kernel_rfl) (by kernel_rfl) (by kernel_rfl) (fun _ _ _ h => h) (Or.inl ⟨by rfl, ?_⟩) trivial ?_
  · intro wq hSw; go_simp
  try simp only [Act.put, List.setIfInBounds_toArray, List.set_cons_zero, List.set_cons_succ]
  refine wpAnyH_take (i := 7) (oi := { dst := some 40, op := Op.binOp BinOp.eql 5 (Operand.tmp 38) (Operand.tmp 39) 5, type := 4, pos := "law.go:116", after := #[{ on := 5, ground := Ground.data }, { on := 6, ground := Ground.data }], guard := none }) (v := .bool TU) rfl (by kernel_rfl) (by kernel_rfl) (by kernel_rfl) (fun _ _ _ h => h) (Or.inl ⟨by rfl, ?_⟩) trivial ?_
  · intro wq hSw; go_simp
  try simp only [Act.put, List.setIfInBounds_toArray, List.set_cons_zero, List.set_cons_succ]
  refine wpAnyH_ready (rs := [1]) (by kernel_rfl) (by simp) ?_
  refine AllReadyH.cons (o := { dst := some 34, op := Op.call { callee := Callee.value (Operand.func 10), args := #[Operand.tmp 33], argTypes := #[5] }, type := 9, pos := "law.go:116", after := #[{ on := 0, ground := Ground.data }], guard := none }) rfl (fun K hK => ?_) AllReadyH.nil
  go_simp
  refine (unhide pM _ (unhide KV _ bz)).mono ?_
  rintro e wz ⟨rfl, bn'⟩
  replace bz := bz.trans (Below.mono bn' bz.size)
  clear bn'
  try go_simp
  refine hK.out _ _ trivial (fun hHeld => ?_)
  clear hK K
  try simp only [Act.put, List.setIfInBounds_toArray, List.set_cons_zero, List.set_cons_succ]
  refine wpAnyH_ready (rs := [3]) (by kernel_rfl) (by simp) ?_
  refine AllReadyH.cons (o := { dst := some 36, op := Op.call { callee := Callee.value (Operand.func 10), args := #[Operand.tmp 35], argTypes := #[5] }, type := 9, pos := "law.go:116", after := #[{ on := 2, ground := Ground.data }, { on := 1, ground := Ground.chain }], guard := none }) rfl (fun K hK => ?_) AllReadyH.nil
  go_simp
  refine (unhide qM _ (unhide KV _ bz)).mono ?_
  rintro e wz ⟨rfl, bn'⟩
  replace bz := bz.trans (Below.mono bn' bz.size)
  clear bn'
  try go_simp
  refine hK.out _ _ trivial (fun hHeld => ?_)
  clear hK K
  try simp only [Act.put, List.setIfInBounds_toArray, List.set_cons_zero, List.set_cons_succ]
  refine wpAnyH_take (i := 4) (oi := { dst := some 37, op := Op.binOp BinOp.eql 9 (Operand.tmp 34) (Operand.tmp 36) 9, type := 4, pos := "law.go:116", after := #[{ on := 1, ground := Ground.data }, { on := 3, ground := Ground.data }], guard := none }) (v := .bool TU) rfl (by kernel_rfl) (by kernel_rfl) (by kernel_rfl) (fun _ _ _ h => h) (Or.inl ⟨by rfl, ?_⟩) trivial ?_
  · intro wq hSw; go_simp
  try simp only [Act.put, List.setIfInBounds_toArray, List.set_cons_zero, List.set_cons_succ]
  refine wpAnyH_take (i := 8) (oi := { dst := some 41, op := Op.binOp BinOp.eql 4 (Operand.tmp 37) (Operand.tmp 40) 4, type := 4, pos := "law.go:116", after := #[{ on := 4, ground := Ground.data }, { on := 7, ground := Ground.data }], guard := none }) (v := .bool true) rfl (by kernel_rfl) (by kernel_rfl) (by kernel_rfl) (fun _ _ _ h => h) (Or.inl ⟨by rfl, ?_⟩) trivial ?_
  · intro wq hSw; go_simp
  try simp only [Act.put, List.setIfInBounds_toArray, List.set_cons_zero, List.set_cons_succ]
  refine wpAnyH_take (i := 9) (oi := { dst := some 42, op := Op.move (Operand.tmp 41), type := 4, pos := "law.go:116", after := #[{ on := 8, ground := Ground.data }, { on := 3, ground := Ground.chain }], guard := none }) (v := .bool true) rfl (by kernel_rfl) (by kernel_rfl) (by kernel_rfl) (fun _ _ _ h => h) (Or.inl ⟨by rfl, ?_⟩) trivial ?_
  · intro wq hSw; go_simp
  try simp only [Act.put, List.setIfInBounds_toArray, List.set_cons_zero, List.set_cons_succ]
  refine wpAnyH_take (i := 10) (oi := { dst := some 43, op := Op.move (Operand.tmp 10), type := 23, pos := "law.go:116", after := #[{ on := 9, ground := Ground.guard }], guard := some (9, true) }) (v := .int .i64 2) rfl (by kernel_rfl) (by kernel_rfl) (by kernel_rfl) (fun _ _ _ h => h) (Or.inl ⟨by rfl, ?_⟩) trivial ?_
  · intro wq hSw; go_simp
  try simp only [Act.put, List.setIfInBounds_toArray, List.set_cons_zero, List.set_cons_succ]
  refine wpAnyH_take (i := 11) (oi := { dst := some 44, op := Op.binOp BinOp.neq 23 (Operand.tmp 43) (Operand.const (Value.int IntKind.i64 0)) 23, type := 4, pos := "law.go:116", after := #[{ on := 10, ground := Ground.data }, { on := 9, ground := Ground.guard }], guard := some (9, true) }) (v := .bool true) rfl (by kernel_rfl) (by kernel_rfl) (by kernel_rfl) (fun _ _ _ h => h) (Or.inl ⟨by rfl, ?_⟩) trivial ?_
  · intro wq hSw; go_simp
  try simp only [Act.put, List.setIfInBounds_toArray, List.set_cons_zero, List.set_cons_succ]
  refine wpAnyH_take (i := 12) (oi := { dst := some 45, op := Op.move (Operand.tmp 44), type := 4, pos := "law.go:116", after := #[{ on := 11, ground := Ground.data }, { on := 9, ground := Ground.chain }, { on := 9, ground := Ground.guard }], guard := some (9, true) }) (v := .bool true) rfl (by kernel_rfl) (by kernel_rfl) (by kernel_rfl) (fun _ _ _ h => h) (Or.inl ⟨by rfl, ?_⟩) trivial ?_
  · intro wq hSw; go_simp
  try simp only [Act.put, List.setIfInBounds_toArray, List.set_cons_zero, List.set_cons_succ]
  refine wpAnyH_take (i := 13) (oi := { dst := some 46, op := Op.move (Operand.tmp 12), type := 23, pos := "law.go:116", after := #[{ on := 12, ground := Ground.guard }], guard := some (12, false) }) (v := undef) rfl (by kernel_rfl) (by kernel_rfl) (by kernel_rfl) (fun _ _ _ h => h) (Or.inr ⟨by rfl, rfl⟩) trivial ?_
  try simp only [Act.put, List.setIfInBounds_toArray, List.set_cons_zero, List.set_cons_succ]
  refine wpAnyH_take (i := 14) (oi := { dst := some 47, op := Op.binOp BinOp.neq 23 (Operand.tmp 46) (Operand.const (Value.int IntKind.i64 0)) 23, type := 4, pos := "law.go:116", after := #[{ on := 13, ground := Ground.data }, { on := 12, ground := Ground.guard }], guard := some (12, false) }) (v := undef) rfl (by kernel_rfl) (by kernel_rfl) (by kernel_rfl) (fun _ _ _ h => h) (Or.inr ⟨by rfl, rfl⟩) trivial ?_
  try simp only [Act.put, List.setIfInBounds_toArray, List.set_cons_zero, List.set_cons_succ]
  refine wpAnyH_take (i := 15) (oi := { dst := some 48, op := Op.pick (Operand.tmp 45) (Operand.const (Value.bool true)) (Operand.tmp 47), type := 4, pos := "law.go:116", after := #[{ on := 12, ground := Ground.data }, { on := 14, ground := Ground.data }, { on := 9, ground := Ground.guard }], guard := some (9, true) }) (v := .bool true) rfl (by kernel_rfl) (by kernel_rfl) (by kernel_rfl) (fun _ _ _ h => h) (Or.inl ⟨by rfl, ?_⟩) trivial ?_
  · intro wq hSw; go_simp
  try simp only [Act.put, List.setIfInBounds_toArray, List.set_cons_zero, List.set_cons_succ]
  refine wpAnyH_take (i := 16) (oi := { dst := some 49, op := Op.move (Operand.tmp 48), type := 4, pos := "law.go:116", after := #[{ on := 15, ground := Ground.data }, { on := 12, ground := Ground.chain }, { on := 9, ground := Ground.guard }], guard := some (9, true) }) (v := .bool true) rfl (by kernel_rfl) (by kernel_rfl) (by kernel_rfl) (fun _ _ _ h => h) (Or.inl ⟨by rfl, ?_⟩) trivial ?_
  · intro wq hSw; go_simp
  try simp only [Act.put, List.setIfInBounds_toArray, List.set_cons_zero, List.set_cons_succ]
  refine wpAnyH_take (i := 17) (oi := { dst := some 50, op := Op.move (Operand.tmp 9), type := 22, pos := "law.go:116", after := #[{ on := 16, ground := Ground.guard }], guard := some (16, false) }) (v := undef) rfl (by kernel_rfl) (by kernel_rfl) (by kernel_rfl) (fun _ _ _ h => h) (Or.inr ⟨by rfl, rfl⟩) trivial ?_
  try simp only [Act.put, List.setIfInBounds_toArray, List.set_cons_zero, List.set_cons_succ]
  refine wpAnyH_take (i := 18) (oi := { dst := some 51, op := Op.move (Operand.tmp 11), type := 22, pos := "law.go:116", after := #[{ on := 16, ground := Ground.guard }], guard := some (16, false) }) (v := undef) rfl (by kernel_rfl) (by kernel_rfl) (by kernel_rfl) (fun _ _ _ h => h) (Or.inr ⟨by rfl, rfl⟩) trivial ?_
  try simp only [Act.put, List.setIfInBounds_toArray, List.set_cons_zero, List.set_cons_succ]
  refine wpAnyH_take (i := 19) (oi := { dst := some 52, op := Op.call { callee := Callee.value (Operand.func 9), args := #[Operand.tmp 50, Operand.tmp 51], argTypes := #[22, 22] }, type := 4, pos := "law.go:116", after := #[{ on := 17, ground := Ground.data }, { on := 18, ground := Ground.data }, { on := 16, ground := Ground.chain }, { on := 16, ground := Ground.guard }], guard := some (16, false) }) (v := undef) rfl (by kernel_rfl) (by kernel_rfl) (by kernel_rfl) (fun _ _ _ h => h) (Or.inr ⟨by rfl, rfl⟩) trivial ?_
  try simp only [Act.put, List.setIfInBounds_toArray, List.set_cons_zero, List.set_cons_succ]
  refine wpAnyH_take (i := 20) (oi := { dst := some 53, op := Op.load 35 (Operand.tmp 6), type := 35, pos := "law.go:116", after := #[{ on := 16, ground := Ground.guard }], guard := some (16, false) }) (v := undef) rfl (by kernel_rfl) (by kernel_rfl) (by kernel_rfl) (fun _ _ _ h => h) (Or.inr ⟨by rfl, rfl⟩) trivial ?_
  try simp only [Act.put, List.setIfInBounds_toArray, List.set_cons_zero, List.set_cons_succ]
  refine wpAnyH_take (i := 21) (oi := { dst := some 54, op := Op.load 35 (Operand.tmp 7), type := 35, pos := "law.go:116", after := #[{ on := 16, ground := Ground.guard }], guard := some (16, false) }) (v := undef) rfl (by kernel_rfl) (by kernel_rfl) (by kernel_rfl) (fun _ _ _ h => h) (Or.inr ⟨by rfl, rfl⟩) trivial ?_
  try simp only [Act.put, List.setIfInBounds_toArray, List.set_cons_zero, List.set_cons_succ]
  refine wpAnyH_take (i := 22) (oi := { dst := some 55, op := Op.binOp BinOp.eql 35 (Operand.tmp 53) (Operand.tmp 54) 35, type := 4, pos := "law.go:116", after := #[{ on := 20, ground := Ground.data }, { on := 21, ground := Ground.data }, { on := 16, ground := Ground.guard }], guard := some (16, false) }) (v := undef) rfl (by kernel_rfl) (by kernel_rfl) (by kernel_rfl) (fun _ _ _ h => h) (Or.inr ⟨by rfl, rfl⟩) trivial ?_
  try simp only [Act.put, List.setIfInBounds_toArray, List.set_cons_zero, List.set_cons_succ]
  refine wpAnyH_take (i := 23) (oi := { dst := some 56, op := Op.binOp BinOp.eql 4 (Operand.tmp 52) (Operand.tmp 55) 4, type := 4, pos := "law.go:116", after := #[{ on := 19, ground := Ground.data }, { on := 22, ground := Ground.data }, { on := 16, ground := Ground.guard }], guard := some (16, false) }) (v := undef) rfl (by kernel_rfl) (by kernel_rfl) (by kernel_rfl) (fun _ _ _ h => h) (Or.inr ⟨by rfl, rfl⟩) trivial ?_
  try simp only [Act.put, List.setIfInBounds_toArray, List.set_cons_zero, List.set_cons_succ]
  refine wpAnyH_take (i := 24) (oi := { dst := some 57, op := Op.pick (Operand.tmp 49) (Operand.const (Value.bool true)) (Operand.tmp 56), type := 4, pos := "law.go:116", after := #[{ on := 16, ground := Ground.data }, { on := 23, ground := Ground.data }, { on := 9, ground := Ground.guard }], guard := some (9, true) }) (v := .bool true) rfl (by kernel_rfl) (by kernel_rfl) (by kernel_rfl) (fun _ _ _ h => h) (Or.inl ⟨by rfl, ?_⟩) trivial ?_
  · intro wq hSw; go_simp
  try simp only [Act.put, List.setIfInBounds_toArray, List.set_cons_zero, List.set_cons_succ]
  refine wpAnyH_take (i := 25) (oi := { dst := some 58, op := Op.pick (Operand.tmp 42) (Operand.tmp 57) (Operand.const (Value.bool false)), type := 4, pos := "law.go:116", after := #[{ on := 9, ground := Ground.data }, { on := 24, ground := Ground.data }], guard := none }) (v := .bool true) rfl (by kernel_rfl) (by kernel_rfl) (by kernel_rfl) (fun _ _ _ h => h) (Or.inl ⟨by rfl, ?_⟩) trivial ?_
  · intro wq hSw; go_simp
  try simp only [Act.put, List.setIfInBounds_toArray, List.set_cons_zero, List.set_cons_succ]
  refine wpAnyH_take (i := 26) (oi := { dst := some 8, op := Op.assign (Operand.tmp 58), type := 4, pos := "law.go:116", after := #[{ on := 25, ground := Ground.data }, { on := 19, ground := Ground.chain }, { on := 0, ground := Ground.phase }, { on := 1, ground := Ground.phase }, { on := 2, ground := Ground.phase }, { on := 3, ground := Ground.phase }, { on := 4, ground := Ground.phase }, { on := 5, ground := Ground.phase }, { on := 6, ground := Ground.phase }, { on := 7, ground := Ground.phase }, { on := 8, ground := Ground.phase }, { on := 9, ground := Ground.phase }, { on := 10, ground := Ground.phase }, { on := 11, ground := Ground.phase }, { on := 12, ground := Ground.phase }, { on := 13, ground := Ground.phase }, { on := 14, ground := Ground.phase }, { on := 15, ground := Ground.phase }, { on := 16, ground := Ground.phase }, { on := 17, ground := Ground.phase }, { on := 18, ground := Ground.phase }, { on := 19, ground := Ground.phase }, { on := 20, ground := Ground.phase }, { on := 21, ground := Ground.phase }, { on := 22, ground := Ground.phase }, { on := 23, ground := Ground.phase }, { on := 24, ground := Ground.phase }, { on := 25, ground := Ground.phase }], guard := none }) (v := .bool true) rfl (by kernel_rfl) (by kernel_rfl) (by kernel_rfl) (fun _ _ _ h => h) (Or.inl ⟨by rfl, ?_⟩) trivial ?_
  · intro wq hSw; go_simp
  try simp only [Act.put, List.setIfInBounds_toArray, List.set_cons_zero, List.set_cons_succ]
  refine wpAnyH_done (by kernel_rfl) ?_ _
  go_wp2_with fail
  go_ret
  exact ⟨rfl, ((unhide S6).later bz).bel⟩

set_option maxHeartbeats 16000000 in
set_option maxRecDepth 100000 in
theorem lawClApartB (t u : Int) (p q : Co) (w : World) (hv : Vars w) (ht : 0 ≤ t ∧ t < 256) (hu : 0 ≤ u ∧ u < 256) (hK : CoK p) (hL : CoK q) (qp : cOk p = true) (qq : cOk q = false) :
    Calls Tryd.prog 5 #[.int .u8 t, .int .u8 u, .agg #[.string p.sc, .string p.ta, .string p.ot, .string p.na, .string p.on, .int .u16 p.ch, .int .u32 p.le, .int .u8 p.ty, .int .u16 p.fl, .int .u8 p.de], .agg #[.string q.sc, .string q.ta, .string q.ot, .string q.na, .string q.on, .int .u16 q.ch, .int .u32 q.le, .int .u8 q.ty, .int .u16 q.fl, .int .u8 q.de]] w fun e w' => e = .returned (.bool true) ∧ Below w.heap.size w w' := by
  obtain ⟨w1, hw1⟩ : ∃ z, z = (w.alloc (.cells #[.string p.sc, .string p.ta, .string p.ot, .string p.na, .string p.on, .int .u16 p.ch, .int .u32 p.le, .int .u8 p.ty, .int .u16 p.fl, .int .u8 p.de] 35)).alloc (.cells #[.string q.sc, .string q.ta, .string q.ot, .string q.na, .string q.on, .int .u16 q.ch, .int .u32 q.le, .int .u8 q.ty, .int .u16 q.fl, .int .u8 q.de] 35) := ⟨_, rfl⟩
  have S1 := hide (show Ct w p q w1 by rw [hw1]; exact Ct.new w p q)
  have HW := hide hw1
  have SZp := hide (show (Tryd.prog.info? 35).map (·.size) = some (#[.string p.sc, .string p.ta, .string p.ot, .string p.na, .string p.on, .int .u16 p.ch, .int .u32 p.le, .int .u8 p.ty, .int .u16 p.fl, .int .u8 p.de] : Array Value).size by kernel_rfl)
  have SZq := hide (show (Tryd.prog.info? 35).map (·.size) = some (#[.string q.sc, .string q.ta, .string q.ot, .string q.na, .string q.on, .int .u16 q.ch, .int .u32 q.le, .int .u8 q.ty, .int .u16 q.fl, .int .u8 q.de] : Array Value).size by kernel_rfl)
  have cL := hide (lives_any w1)
  have cS := hide (fun wx => small_any p wx)
  have cT := hide (fun wx => small_any q wx)
  have pA := hide (fun (wx : World) => append_nil p wx hK)
  have qA := hide (fun (wx : World) => append_nil q wx hL)
  have pM := hide (fun wx (h : Vars wx) => name_any t wx h ht.1 ht.2)
  have qM := hide (fun wx (h : Vars wx) => name_any u wx h hu.1 hu.2)
  have HN := hide (nm_eq ht.1 ht.2 hu.1 hu.2)
  obtain ⟨DD, hD, hEQ⟩ := eql_two p q
  have HI := hide (fun (h : cOk p = true) (k : cOk q = true) => (show decide (coB p = coB q) = DD by
    rw [Bool.eq_iff_iff, decide_eq_true_iff, hD]
    exact ⟨fun e => co_inj h hK k hL e, fun e => by rw [e]⟩))
  generalize coB p = P at *
  generalize coB q = Q at *
  generalize nmS t = NT at *
  generalize nmS u = NU at *
  obtain ⟨TU, hTU⟩ : ∃ z : Bool, z = (t == u) := ⟨_, rfl⟩
  rw [← hTU] at HN
  have HTU := hide hTU.symm
  have HV := hide hv
  clear hK hL hw1 hv hD ht hu hTU
  simp only [qp, if_true] at pA
  simp only [qq, Bool.false_eq_true, if_false] at qA
  clear qp qq HI
  go_enter Tryd.func5, Tryd.ntmps5
  go_wp2_with fail
  rw [← unhide HW]
  refine (unhide cL).mono ?_
  rintro e w2 ⟨rfl, b⟩
  have S2 := hide ((unhide S1).later b)
  have R2 := hide (unhide S2).rp
  clear b cL S1 HW
  go_wp2_with (with_reducible show wpList Tryd.prog _ _ (Oper.mk _ (Op.load 35 _) _ _ _ none :: _) _ _; refine wpList_load_row rfl _ (.tmp 6) rfl (w.heap.size) (by simp [Act.eval, Act.put]) _ #[.string p.sc, .string p.ta, .string p.ot, .string p.na, .string p.on, .int .u16 p.ch, .int .u32 p.le, .int .u8 p.ty, .int .u16 p.fl, .int .u8 p.de] (0, 0) _ (unhide R2) Tryd.underlying35 rfl (unhide SZp) ?_)
  refine (unhide cS _).mono ?_
  rintro e w3 ⟨B, rfl, b⟩
  have S3 := hide ((unhide S2).later b)
  clear b cS S2 R2
  cases B
  · go_wp2_with fail
    go_ret
    exact ⟨rfl, (unhide S3).bel⟩
  have k0 := row_cell (unhide S3).rq (j := 0) (v := .string q.sc) rfl
  have k1 := row_cell (unhide S3).rq (j := 1) (v := .string q.ta) rfl
  have k2 := row_cell (unhide S3).rq (j := 2) (v := .string q.ot) rfl
  have k3 := row_cell (unhide S3).rq (j := 3) (v := .string q.na) rfl
  have k4 := row_cell (unhide S3).rq (j := 4) (v := .string q.on) rfl
  have k5 := row_cell (unhide S3).rq (j := 5) (v := .int .u16 q.ch) rfl
  have k6 := row_cell (unhide S3).rq (j := 6) (v := .int .u32 q.le) rfl
  have k7 := row_cell (unhide S3).rq (j := 7) (v := .int .u8 q.ty) rfl
  have k8 := row_cell (unhide S3).rq (j := 8) (v := .int .u16 q.fl) rfl
  have k9 := row_cell (unhide S3).rq (j := 9) (v := .int .u8 q.de) rfl
  go_wp2_with fail
  refine (unhide cT _).mono ?_
  rintro e w4 ⟨B, rfl, b⟩
  have S4 := hide ((unhide S3).later b)
  have R4 := hide (unhide S4).rp
  clear b cT S3 k0 k1 k2 k3 k4 k5 k6 k7 k8 k9
  cases B
  · go_wp2_with fail
    go_ret
    exact ⟨rfl, (unhide S4).bel⟩
  go_wp2_with (with_reducible show wpList Tryd.prog _ _ (Oper.mk _ (Op.load 35 _) _ _ _ none :: _) _ _; refine wpList_load_row rfl _ (.tmp 6) rfl (w.heap.size) (by simp [Act.eval, Act.put]) _ #[.string p.sc, .string p.ta, .string p.ot, .string p.na, .string p.on, .int .u16 p.ch, .int .u32 p.le, .int .u8 p.ty, .int .u16 p.fl, .int .u8 p.de] (0, 0) _ (unhide R4) Tryd.underlying35 rfl (unhide SZp) ?_)
  refine (unhide pA _).mono ?_
  rintro e w5 ⟨xo, xn, xc, rfl, hx, b⟩
  have S5 := hide ((unhide S4).later b)
  have R5 := hide (unhide S5).rq
  have X5 := hide hx
  clear b pA S4 R4 hx
  go_wp2_with (with_reducible show wpList Tryd.prog _ _ (Oper.mk _ (Op.load 35 _) _ _ _ none :: _) _ _; refine wpList_load_row rfl _ (.tmp 7) rfl (w.heap.size + 1) (by simp [Act.eval, Act.put]) _ #[.string q.sc, .string q.ta, .string q.ot, .string q.na, .string q.on, .int .u16 q.ch, .int .u32 q.le, .int .u8 q.ty, .int .u16 q.fl, .int .u8 q.de] (0, 0) _ (unhide R5) Tryd.underlying35 rfl (unhide SZq) ?_)
  refine (unhide qA _).mono ?_
  rintro e w6 ⟨yo, yn, yc, rfl, hy, b⟩
  have S6 := hide ((unhide S5).later b)
  have X6 := hide ((unhide X5).later b)
  have Y6 := hide hy
  clear b qA S5 R5 hy X5
  have KV := hide (fun (w' : World) (hb : Below w6.heap.size w6 w') => (unhide HV).later ((unhide S6).later hb).bel)
  have KX := hide (fun (w' : World) (hb : Below w6.heap.size w6 w') => sameBytes_any xo xn xc _ yo yn yc _ w' ((unhide X6).later hb) ((unhide Y6).later hb))
  have htu := unhide HTU
  have hnm := unhide HN
  have bz := below_drew w6
  go_wp2_with fail
  refine wp_region_held_drew (S := fun _ => True) (by kernel_rfl) trivial (fun hHeld => ?_)
  refine wpAnyH_take (i := 0) (oi := { dst := some 33, op := Op.move (Operand.tmp 0), type := 5, pos := "law.go:116", after := #[], guard := none }) (v := .int .u8 t) rfl (by kernel_rfl) (by kernel_rfl) (by kernel_rfl) (fun _ _ _ h => h) (Or.inl ⟨by rfl, ?_⟩) trivial ?_
  · intro wq hSw; go_simp
  try simp only [Act.put, List.setIfInBounds_toArray, List.set_cons_zero, List.set_cons_succ]
  refine wpAnyH_take (i := 2) (oi := { dst := some 35, op := Op.move (Operand.tmp 1), type := 5, pos := "law.go:116", after := #[], guard := none }) (v := .int .u8 u) rfl (by kernel_rfl) (by kernel_rfl) (by kernel_rfl) (fun _ _ _ h => h) (Or.inl ⟨by rfl, ?_⟩) trivial ?_
  · intro wq hSw; go_simp
  try simp only [Act.put, List.setIfInBounds_toArray, List.set_cons_zero, List.set_cons_succ]
  refine wpAnyH_take (i := 5) (oi := { dst := some 38, op := Op.move (Operand.tmp 0), type := 5, pos := "law.go:116", after := #[], guard := none }) (v := .int .u8 t) rfl (by kernel_rfl) (by kernel_rfl) (by kernel_rfl) (fun _ _ _ h => h) (Or.inl ⟨by rfl, ?_⟩) trivial ?_
  · intro wq hSw; go_simp
  try simp only [Act.put, List.setIfInBounds_toArray, List.set_cons_zero, List.set_cons_succ]
  refine wpAnyH_take (i := 6) (oi := { dst := some 39, op := Op.move (Operand.tmp 1), type := 5, pos := "law.go:116", after := #[], guard := none }) (v := .int .u8 u) rfl (by kernel_rfl) (by kernel_rfl) (by kernel_rfl) (fun _ _ _ h => h) (Or.inl ⟨by rfl, ?_⟩) trivial ?_
  · intro wq hSw; go_simp
  try simp only [Act.put, List.setIfInBounds_toArray, List.set_cons_zero, List.set_cons_succ]
  refine wpAnyH_take (i := 7) (oi := { dst := some 40, op := Op.binOp BinOp.eql 5 (Operand.tmp 38) (Operand.tmp 39) 5, type := 4, pos := "law.go:116", after := #[{ on := 5, ground := Ground.data }, { on := 6, ground := Ground.data }], guard := none }) (v := .bool TU) rfl (by kernel_rfl) (by kernel_rfl) (by kernel_rfl) (fun _ _ _ h => h) (Or.inl ⟨by rfl, ?_⟩) trivial ?_
  · intro wq hSw; go_simp
  try simp only [Act.put, List.setIfInBounds_toArray, List.set_cons_zero, List.set_cons_succ]
  refine wpAnyH_ready (rs := [1]) (by kernel_rfl) (by simp) ?_
  refine AllReadyH.cons (o := { dst := some 34, op := Op.call { callee := Callee.value (Operand.func 10), args := #[Operand.tmp 33], argTypes := #[5] }, type := 9, pos := "law.go:116", after := #[{ on := 0, ground := Ground.data }], guard := none }) rfl (fun K hK => ?_) AllReadyH.nil
  go_simp
  refine (unhide pM _ (unhide KV _ bz)).mono ?_
  rintro e wz ⟨rfl, bn'⟩
  replace bz := bz.trans (Below.mono bn' bz.size)
  clear bn'
  try go_simp
  refine hK.out _ _ trivial (fun hHeld => ?_)
  clear hK K
  try simp only [Act.put, List.setIfInBounds_toArray, List.set_cons_zero, List.set_cons_succ]
  refine wpAnyH_ready (rs := [3]) (by kernel_rfl) (by simp) ?_
  refine AllReadyH.cons (o := { dst := some 36, op := Op.call { callee := Callee.value (Operand.func 10), args := #[Operand.tmp 35], argTypes := #[5] }, type := 9, pos := "law.go:116", after := #[{ on := 2, ground := Ground.data }, { on := 1, ground := Ground.chain }], guard := none }) rfl (fun K hK => ?_) AllReadyH.nil
  go_simp
  refine (unhide qM _ (unhide KV _ bz)).mono ?_
  rintro e wz ⟨rfl, bn'⟩
  replace bz := bz.trans (Below.mono bn' bz.size)
  clear bn'
  try go_simp
  refine hK.out _ _ trivial (fun hHeld => ?_)
  clear hK K
  try simp only [Act.put, List.setIfInBounds_toArray, List.set_cons_zero, List.set_cons_succ]
  refine wpAnyH_take (i := 4) (oi := { dst := some 37, op := Op.binOp BinOp.eql 9 (Operand.tmp 34) (Operand.tmp 36) 9, type := 4, pos := "law.go:116", after := #[{ on := 1, ground := Ground.data }, { on := 3, ground := Ground.data }], guard := none }) (v := .bool TU) rfl (by kernel_rfl) (by kernel_rfl) (by kernel_rfl) (fun _ _ _ h => h) (Or.inl ⟨by rfl, ?_⟩) trivial ?_
  · intro wq hSw; go_simp
  try simp only [Act.put, List.setIfInBounds_toArray, List.set_cons_zero, List.set_cons_succ]
  refine wpAnyH_take (i := 8) (oi := { dst := some 41, op := Op.binOp BinOp.eql 4 (Operand.tmp 37) (Operand.tmp 40) 4, type := 4, pos := "law.go:116", after := #[{ on := 4, ground := Ground.data }, { on := 7, ground := Ground.data }], guard := none }) (v := .bool true) rfl (by kernel_rfl) (by kernel_rfl) (by kernel_rfl) (fun _ _ _ h => h) (Or.inl ⟨by rfl, ?_⟩) trivial ?_
  · intro wq hSw; go_simp
  try simp only [Act.put, List.setIfInBounds_toArray, List.set_cons_zero, List.set_cons_succ]
  refine wpAnyH_take (i := 9) (oi := { dst := some 42, op := Op.move (Operand.tmp 41), type := 4, pos := "law.go:116", after := #[{ on := 8, ground := Ground.data }, { on := 3, ground := Ground.chain }], guard := none }) (v := .bool true) rfl (by kernel_rfl) (by kernel_rfl) (by kernel_rfl) (fun _ _ _ h => h) (Or.inl ⟨by rfl, ?_⟩) trivial ?_
  · intro wq hSw; go_simp
  try simp only [Act.put, List.setIfInBounds_toArray, List.set_cons_zero, List.set_cons_succ]
  refine wpAnyH_take (i := 10) (oi := { dst := some 43, op := Op.move (Operand.tmp 10), type := 23, pos := "law.go:116", after := #[{ on := 9, ground := Ground.guard }], guard := some (9, true) }) (v := .int .i64 0) rfl (by kernel_rfl) (by kernel_rfl) (by kernel_rfl) (fun _ _ _ h => h) (Or.inl ⟨by rfl, ?_⟩) trivial ?_
  · intro wq hSw; go_simp
  try simp only [Act.put, List.setIfInBounds_toArray, List.set_cons_zero, List.set_cons_succ]
  refine wpAnyH_take (i := 11) (oi := { dst := some 44, op := Op.binOp BinOp.neq 23 (Operand.tmp 43) (Operand.const (Value.int IntKind.i64 0)) 23, type := 4, pos := "law.go:116", after := #[{ on := 10, ground := Ground.data }, { on := 9, ground := Ground.guard }], guard := some (9, true) }) (v := .bool false) rfl (by kernel_rfl) (by kernel_rfl) (by kernel_rfl) (fun _ _ _ h => h) (Or.inl ⟨by rfl, ?_⟩) trivial ?_
  · intro wq hSw; go_simp
  try simp only [Act.put, List.setIfInBounds_toArray, List.set_cons_zero, List.set_cons_succ]
  refine wpAnyH_take (i := 12) (oi := { dst := some 45, op := Op.move (Operand.tmp 44), type := 4, pos := "law.go:116", after := #[{ on := 11, ground := Ground.data }, { on := 9, ground := Ground.chain }, { on := 9, ground := Ground.guard }], guard := some (9, true) }) (v := .bool false) rfl (by kernel_rfl) (by kernel_rfl) (by kernel_rfl) (fun _ _ _ h => h) (Or.inl ⟨by rfl, ?_⟩) trivial ?_
  · intro wq hSw; go_simp
  try simp only [Act.put, List.setIfInBounds_toArray, List.set_cons_zero, List.set_cons_succ]
  refine wpAnyH_take (i := 13) (oi := { dst := some 46, op := Op.move (Operand.tmp 12), type := 23, pos := "law.go:116", after := #[{ on := 12, ground := Ground.guard }], guard := some (12, false) }) (v := .int .i64 2) rfl (by kernel_rfl) (by kernel_rfl) (by kernel_rfl) (fun _ _ _ h => h) (Or.inl ⟨by rfl, ?_⟩) trivial ?_
  · intro wq hSw; go_simp
  try simp only [Act.put, List.setIfInBounds_toArray, List.set_cons_zero, List.set_cons_succ]
  refine wpAnyH_take (i := 14) (oi := { dst := some 47, op := Op.binOp BinOp.neq 23 (Operand.tmp 46) (Operand.const (Value.int IntKind.i64 0)) 23, type := 4, pos := "law.go:116", after := #[{ on := 13, ground := Ground.data }, { on := 12, ground := Ground.guard }], guard := some (12, false) }) (v := .bool true) rfl (by kernel_rfl) (by kernel_rfl) (by kernel_rfl) (fun _ _ _ h => h) (Or.inl ⟨by rfl, ?_⟩) trivial ?_
  · intro wq hSw; go_simp
  try simp only [Act.put, List.setIfInBounds_toArray, List.set_cons_zero, List.set_cons_succ]
  refine wpAnyH_take (i := 15) (oi := { dst := some 48, op := Op.pick (Operand.tmp 45) (Operand.const (Value.bool true)) (Operand.tmp 47), type := 4, pos := "law.go:116", after := #[{ on := 12, ground := Ground.data }, { on := 14, ground := Ground.data }, { on := 9, ground := Ground.guard }], guard := some (9, true) }) (v := .bool true) rfl (by kernel_rfl) (by kernel_rfl) (by kernel_rfl) (fun _ _ _ h => h) (Or.inl ⟨by rfl, ?_⟩) trivial ?_
  · intro wq hSw; go_simp
  try simp only [Act.put, List.setIfInBounds_toArray, List.set_cons_zero, List.set_cons_succ]
  refine wpAnyH_take (i := 16) (oi := { dst := some 49, op := Op.move (Operand.tmp 48), type := 4, pos := "law.go:116", after := #[{ on := 15, ground := Ground.data }, { on := 12, ground := Ground.chain }, { on := 9, ground := Ground.guard }], guard := some (9, true) }) (v := .bool true) rfl (by kernel_rfl) (by kernel_rfl) (by kernel_rfl) (fun _ _ _ h => h) (Or.inl ⟨by rfl, ?_⟩) trivial ?_
  · intro wq hSw; go_simp
  try simp only [Act.put, List.setIfInBounds_toArray, List.set_cons_zero, List.set_cons_succ]
  refine wpAnyH_take (i := 17) (oi := { dst := some 50, op := Op.move (Operand.tmp 9), type := 22, pos := "law.go:116", after := #[{ on := 16, ground := Ground.guard }], guard := some (16, false) }) (v := undef) rfl (by kernel_rfl) (by kernel_rfl) (by kernel_rfl) (fun _ _ _ h => h) (Or.inr ⟨by rfl, rfl⟩) trivial ?_
  try simp only [Act.put, List.setIfInBounds_toArray, List.set_cons_zero, List.set_cons_succ]
  refine wpAnyH_take (i := 18) (oi := { dst := some 51, op := Op.move (Operand.tmp 11), type := 22, pos := "law.go:116", after := #[{ on := 16, ground := Ground.guard }], guard := some (16, false) }) (v := undef) rfl (by kernel_rfl) (by kernel_rfl) (by kernel_rfl) (fun _ _ _ h => h) (Or.inr ⟨by rfl, rfl⟩) trivial ?_
  try simp only [Act.put, List.setIfInBounds_toArray, List.set_cons_zero, List.set_cons_succ]
  refine wpAnyH_take (i := 19) (oi := { dst := some 52, op := Op.call { callee := Callee.value (Operand.func 9), args := #[Operand.tmp 50, Operand.tmp 51], argTypes := #[22, 22] }, type := 4, pos := "law.go:116", after := #[{ on := 17, ground := Ground.data }, { on := 18, ground := Ground.data }, { on := 16, ground := Ground.chain }, { on := 16, ground := Ground.guard }], guard := some (16, false) }) (v := undef) rfl (by kernel_rfl) (by kernel_rfl) (by kernel_rfl) (fun _ _ _ h => h) (Or.inr ⟨by rfl, rfl⟩) trivial ?_
  try simp only [Act.put, List.setIfInBounds_toArray, List.set_cons_zero, List.set_cons_succ]
  refine wpAnyH_take (i := 20) (oi := { dst := some 53, op := Op.load 35 (Operand.tmp 6), type := 35, pos := "law.go:116", after := #[{ on := 16, ground := Ground.guard }], guard := some (16, false) }) (v := undef) rfl (by kernel_rfl) (by kernel_rfl) (by kernel_rfl) (fun _ _ _ h => h) (Or.inr ⟨by rfl, rfl⟩) trivial ?_
  try simp only [Act.put, List.setIfInBounds_toArray, List.set_cons_zero, List.set_cons_succ]
  refine wpAnyH_take (i := 21) (oi := { dst := some 54, op := Op.load 35 (Operand.tmp 7), type := 35, pos := "law.go:116", after := #[{ on := 16, ground := Ground.guard }], guard := some (16, false) }) (v := undef) rfl (by kernel_rfl) (by kernel_rfl) (by kernel_rfl) (fun _ _ _ h => h) (Or.inr ⟨by rfl, rfl⟩) trivial ?_
  try simp only [Act.put, List.setIfInBounds_toArray, List.set_cons_zero, List.set_cons_succ]
  refine wpAnyH_take (i := 22) (oi := { dst := some 55, op := Op.binOp BinOp.eql 35 (Operand.tmp 53) (Operand.tmp 54) 35, type := 4, pos := "law.go:116", after := #[{ on := 20, ground := Ground.data }, { on := 21, ground := Ground.data }, { on := 16, ground := Ground.guard }], guard := some (16, false) }) (v := undef) rfl (by kernel_rfl) (by kernel_rfl) (by kernel_rfl) (fun _ _ _ h => h) (Or.inr ⟨by rfl, rfl⟩) trivial ?_
  try simp only [Act.put, List.setIfInBounds_toArray, List.set_cons_zero, List.set_cons_succ]
  refine wpAnyH_take (i := 23) (oi := { dst := some 56, op := Op.binOp BinOp.eql 4 (Operand.tmp 52) (Operand.tmp 55) 4, type := 4, pos := "law.go:116", after := #[{ on := 19, ground := Ground.data }, { on := 22, ground := Ground.data }, { on := 16, ground := Ground.guard }], guard := some (16, false) }) (v := undef) rfl (by kernel_rfl) (by kernel_rfl) (by kernel_rfl) (fun _ _ _ h => h) (Or.inr ⟨by rfl, rfl⟩) trivial ?_
  try simp only [Act.put, List.setIfInBounds_toArray, List.set_cons_zero, List.set_cons_succ]
  refine wpAnyH_take (i := 24) (oi := { dst := some 57, op := Op.pick (Operand.tmp 49) (Operand.const (Value.bool true)) (Operand.tmp 56), type := 4, pos := "law.go:116", after := #[{ on := 16, ground := Ground.data }, { on := 23, ground := Ground.data }, { on := 9, ground := Ground.guard }], guard := some (9, true) }) (v := .bool true) rfl (by kernel_rfl) (by kernel_rfl) (by kernel_rfl) (fun _ _ _ h => h) (Or.inl ⟨by rfl, ?_⟩) trivial ?_
  · intro wq hSw; go_simp
  try simp only [Act.put, List.setIfInBounds_toArray, List.set_cons_zero, List.set_cons_succ]
  refine wpAnyH_take (i := 25) (oi := { dst := some 58, op := Op.pick (Operand.tmp 42) (Operand.tmp 57) (Operand.const (Value.bool false)), type := 4, pos := "law.go:116", after := #[{ on := 9, ground := Ground.data }, { on := 24, ground := Ground.data }], guard := none }) (v := .bool true) rfl (by kernel_rfl) (by kernel_rfl) (by kernel_rfl) (fun _ _ _ h => h) (Or.inl ⟨by rfl, ?_⟩) trivial ?_
  · intro wq hSw; go_simp
  try simp only [Act.put, List.setIfInBounds_toArray, List.set_cons_zero, List.set_cons_succ]
  refine wpAnyH_take (i := 26) (oi := { dst := some 8, op := Op.assign (Operand.tmp 58), type := 4, pos := "law.go:116", after := #[{ on := 25, ground := Ground.data }, { on := 19, ground := Ground.chain }, { on := 0, ground := Ground.phase }, { on := 1, ground := Ground.phase }, { on := 2, ground := Ground.phase }, { on := 3, ground := Ground.phase }, { on := 4, ground := Ground.phase }, { on := 5, ground := Ground.phase }, { on := 6, ground := Ground.phase }, { on := 7, ground := Ground.phase }, { on := 8, ground := Ground.phase }, { on := 9, ground := Ground.phase }, { on := 10, ground := Ground.phase }, { on := 11, ground := Ground.phase }, { on := 12, ground := Ground.phase }, { on := 13, ground := Ground.phase }, { on := 14, ground := Ground.phase }, { on := 15, ground := Ground.phase }, { on := 16, ground := Ground.phase }, { on := 17, ground := Ground.phase }, { on := 18, ground := Ground.phase }, { on := 19, ground := Ground.phase }, { on := 20, ground := Ground.phase }, { on := 21, ground := Ground.phase }, { on := 22, ground := Ground.phase }, { on := 23, ground := Ground.phase }, { on := 24, ground := Ground.phase }, { on := 25, ground := Ground.phase }], guard := none }) (v := .bool true) rfl (by kernel_rfl) (by kernel_rfl) (by kernel_rfl) (fun _ _ _ h => h) (Or.inl ⟨by rfl, ?_⟩) trivial ?_
  · intro wq hSw; go_simp
  try simp only [Act.put, List.setIfInBounds_toArray, List.set_cons_zero, List.set_cons_succ]
  refine wpAnyH_done (by kernel_rfl) ?_ _
  go_wp2_with fail
  go_ret
  exact ⟨rfl, ((unhide S6).later bz).bel⟩

set_option maxHeartbeats 16000000 in
set_option maxRecDepth 100000 in
theorem lawClApartC (t u : Int) (p q : Co) (w : World) (hv : Vars w) (ht : 0 ≤ t ∧ t < 256) (hu : 0 ≤ u ∧ u < 256) (hK : CoK p) (hL : CoK q) (qp : cOk p = true) (qq : cOk q = true) :
    Calls Tryd.prog 5 #[.int .u8 t, .int .u8 u, .agg #[.string p.sc, .string p.ta, .string p.ot, .string p.na, .string p.on, .int .u16 p.ch, .int .u32 p.le, .int .u8 p.ty, .int .u16 p.fl, .int .u8 p.de], .agg #[.string q.sc, .string q.ta, .string q.ot, .string q.na, .string q.on, .int .u16 q.ch, .int .u32 q.le, .int .u8 q.ty, .int .u16 q.fl, .int .u8 q.de]] w fun e w' => e = .returned (.bool true) ∧ Below w.heap.size w w' := by
  obtain ⟨w1, hw1⟩ : ∃ z, z = (w.alloc (.cells #[.string p.sc, .string p.ta, .string p.ot, .string p.na, .string p.on, .int .u16 p.ch, .int .u32 p.le, .int .u8 p.ty, .int .u16 p.fl, .int .u8 p.de] 35)).alloc (.cells #[.string q.sc, .string q.ta, .string q.ot, .string q.na, .string q.on, .int .u16 q.ch, .int .u32 q.le, .int .u8 q.ty, .int .u16 q.fl, .int .u8 q.de] 35) := ⟨_, rfl⟩
  have S1 := hide (show Ct w p q w1 by rw [hw1]; exact Ct.new w p q)
  have HW := hide hw1
  have SZp := hide (show (Tryd.prog.info? 35).map (·.size) = some (#[.string p.sc, .string p.ta, .string p.ot, .string p.na, .string p.on, .int .u16 p.ch, .int .u32 p.le, .int .u8 p.ty, .int .u16 p.fl, .int .u8 p.de] : Array Value).size by kernel_rfl)
  have SZq := hide (show (Tryd.prog.info? 35).map (·.size) = some (#[.string q.sc, .string q.ta, .string q.ot, .string q.na, .string q.on, .int .u16 q.ch, .int .u32 q.le, .int .u8 q.ty, .int .u16 q.fl, .int .u8 q.de] : Array Value).size by kernel_rfl)
  have cL := hide (lives_any w1)
  have cS := hide (fun wx => small_any p wx)
  have cT := hide (fun wx => small_any q wx)
  have pA := hide (fun (wx : World) => append_nil p wx hK)
  have qA := hide (fun (wx : World) => append_nil q wx hL)
  have pM := hide (fun wx (h : Vars wx) => name_any t wx h ht.1 ht.2)
  have qM := hide (fun wx (h : Vars wx) => name_any u wx h hu.1 hu.2)
  have HN := hide (nm_eq ht.1 ht.2 hu.1 hu.2)
  obtain ⟨DD, hD, hEQ⟩ := eql_two p q
  have HI := hide (fun (h : cOk p = true) (k : cOk q = true) => (show decide (coB p = coB q) = DD by
    rw [Bool.eq_iff_iff, decide_eq_true_iff, hD]
    exact ⟨fun e => co_inj h hK k hL e, fun e => by rw [e]⟩))
  generalize coB p = P at *
  generalize coB q = Q at *
  generalize nmS t = NT at *
  generalize nmS u = NU at *
  obtain ⟨TU, hTU⟩ : ∃ z : Bool, z = (t == u) := ⟨_, rfl⟩
  rw [← hTU] at HN
  have HTU := hide hTU.symm
  have HV := hide hv
  clear hK hL hw1 hv hD ht hu hTU
  have HJ := hide (unhide HI qp qq)
  simp only [qp, if_true] at pA
  simp only [qq, if_true] at qA
  clear qp qq HI
  go_enter Tryd.func5, Tryd.ntmps5
  go_wp2_with fail
  rw [← unhide HW]
  refine (unhide cL).mono ?_
  rintro e w2 ⟨rfl, b⟩
  have S2 := hide ((unhide S1).later b)
  have R2 := hide (unhide S2).rp
  clear b cL S1 HW
  go_wp2_with (with_reducible show wpList Tryd.prog _ _ (Oper.mk _ (Op.load 35 _) _ _ _ none :: _) _ _; refine wpList_load_row rfl _ (.tmp 6) rfl (w.heap.size) (by simp [Act.eval, Act.put]) _ #[.string p.sc, .string p.ta, .string p.ot, .string p.na, .string p.on, .int .u16 p.ch, .int .u32 p.le, .int .u8 p.ty, .int .u16 p.fl, .int .u8 p.de] (0, 0) _ (unhide R2) Tryd.underlying35 rfl (unhide SZp) ?_)
  refine (unhide cS _).mono ?_
  rintro e w3 ⟨B, rfl, b⟩
  have S3 := hide ((unhide S2).later b)
  clear b cS S2 R2
  cases B
  · go_wp2_with fail
    go_ret
    exact ⟨rfl, (unhide S3).bel⟩
  have k0 := row_cell (unhide S3).rq (j := 0) (v := .string q.sc) rfl
  have k1 := row_cell (unhide S3).rq (j := 1) (v := .string q.ta) rfl
  have k2 := row_cell (unhide S3).rq (j := 2) (v := .string q.ot) rfl
  have k3 := row_cell (unhide S3).rq (j := 3) (v := .string q.na) rfl
  have k4 := row_cell (unhide S3).rq (j := 4) (v := .string q.on) rfl
  have k5 := row_cell (unhide S3).rq (j := 5) (v := .int .u16 q.ch) rfl
  have k6 := row_cell (unhide S3).rq (j := 6) (v := .int .u32 q.le) rfl
  have k7 := row_cell (unhide S3).rq (j := 7) (v := .int .u8 q.ty) rfl
  have k8 := row_cell (unhide S3).rq (j := 8) (v := .int .u16 q.fl) rfl
  have k9 := row_cell (unhide S3).rq (j := 9) (v := .int .u8 q.de) rfl
  go_wp2_with fail
  refine (unhide cT _).mono ?_
  rintro e w4 ⟨B, rfl, b⟩
  have S4 := hide ((unhide S3).later b)
  have R4 := hide (unhide S4).rp
  clear b cT S3 k0 k1 k2 k3 k4 k5 k6 k7 k8 k9
  cases B
  · go_wp2_with fail
    go_ret
    exact ⟨rfl, (unhide S4).bel⟩
  go_wp2_with (with_reducible show wpList Tryd.prog _ _ (Oper.mk _ (Op.load 35 _) _ _ _ none :: _) _ _; refine wpList_load_row rfl _ (.tmp 6) rfl (w.heap.size) (by simp [Act.eval, Act.put]) _ #[.string p.sc, .string p.ta, .string p.ot, .string p.na, .string p.on, .int .u16 p.ch, .int .u32 p.le, .int .u8 p.ty, .int .u16 p.fl, .int .u8 p.de] (0, 0) _ (unhide R4) Tryd.underlying35 rfl (unhide SZp) ?_)
  refine (unhide pA _).mono ?_
  rintro e w5 ⟨xo, xn, xc, rfl, hx, b⟩
  have S5 := hide ((unhide S4).later b)
  have R5 := hide (unhide S5).rq
  have X5 := hide hx
  clear b pA S4 R4 hx
  go_wp2_with (with_reducible show wpList Tryd.prog _ _ (Oper.mk _ (Op.load 35 _) _ _ _ none :: _) _ _; refine wpList_load_row rfl _ (.tmp 7) rfl (w.heap.size + 1) (by simp [Act.eval, Act.put]) _ #[.string q.sc, .string q.ta, .string q.ot, .string q.na, .string q.on, .int .u16 q.ch, .int .u32 q.le, .int .u8 q.ty, .int .u16 q.fl, .int .u8 q.de] (0, 0) _ (unhide R5) Tryd.underlying35 rfl (unhide SZq) ?_)
  refine (unhide qA _).mono ?_
  rintro e w6 ⟨yo, yn, yc, rfl, hy, b⟩
  have S6 := hide ((unhide S5).later b)
  have X6 := hide ((unhide X5).later b)
  have Y6 := hide hy
  clear b qA S5 R5 hy X5
  have KV := hide (fun (w' : World) (hb : Below w6.heap.size w6 w') => (unhide HV).later ((unhide S6).later hb).bel)
  have KX := hide (fun (w' : World) (hb : Below w6.heap.size w6 w') => sameBytes_any xo xn xc _ yo yn yc _ w' ((unhide X6).later hb) ((unhide Y6).later hb))
  rw [unhide HJ] at KX
  clear HJ
  have htu := unhide HTU
  have hnm := unhide HN
  have bz := below_drew w6
  go_wp2_with fail
  refine wp_region_held_drew (S := fun w' => w'.heap[w.heap.size]? = some (.cells #[.string p.sc, .string p.ta, .string p.ot, .string p.na, .string p.on, .int .u16 p.ch, .int .u32 p.le, .int .u8 p.ty, .int .u16 p.fl, .int .u8 p.de] 35 (0, 0)) ∧ w'.heap[w.heap.size + 1]? = some (.cells #[.string q.sc, .string q.ta, .string q.ot, .string q.na, .string q.on, .int .u16 q.ch, .int .u32 q.le, .int .u8 q.ty, .int .u16 q.fl, .int .u8 q.de] 35 (0, 0))) (by kernel_rfl) ⟨((unhide S6).later bz).rp, ((unhide S6).later bz).rq⟩ (fun hHeld => ?_)
  refine wpAnyH_take (i := 0) (oi := { dst := some 33, op := Op.move (Operand.tmp 0), type := 5, pos := "law.go:116", after := #[], guard := none }) (v := .int .u8 t) rfl (by kernel_rfl) (by kernel_rfl) (by kernel_rfl) (fun _ _ _ h => h) (Or.inl ⟨by rfl, ?_⟩) ⟨((unhide S6).later bz).rp, ((unhide S6).later bz).rq⟩ ?_
  · intro wq hSw; go_simp
  try simp only [Act.put, List.setIfInBounds_toArray, List.set_cons_zero, List.set_cons_succ]
  refine wpAnyH_take (i := 2) (oi := { dst := some 35, op := Op.move (Operand.tmp 1), type := 5, pos := "law.go:116", after := #[], guard := none }) (v := .int .u8 u) rfl (by kernel_rfl) (by kernel_rfl) (by kernel_rfl) (fun _ _ _ h => h) (Or.inl ⟨by rfl, ?_⟩) ⟨((unhide S6).later bz).rp, ((unhide S6).later bz).rq⟩ ?_
  · intro wq hSw; go_simp
  try simp only [Act.put, List.setIfInBounds_toArray, List.set_cons_zero, List.set_cons_succ]
  refine wpAnyH_take (i := 5) (oi := { dst := some 38, op := Op.move (Operand.tmp 0), type := 5, pos := "law.go:116", after := #[], guard := none }) (v := .int .u8 t) rfl (by kernel_rfl) (by kernel_rfl) (by kernel_rfl) (fun _ _ _ h => h) (Or.inl ⟨by rfl, ?_⟩) ⟨((unhide S6).later bz).rp, ((unhide S6).later bz).rq⟩ ?_
  · intro wq hSw; go_simp
  try simp only [Act.put, List.setIfInBounds_toArray, List.set_cons_zero, List.set_cons_succ]
  refine wpAnyH_take (i := 6) (oi := { dst := some 39, op := Op.move (Operand.tmp 1), type := 5, pos := "law.go:116", after := #[], guard := none }) (v := .int .u8 u) rfl (by kernel_rfl) (by kernel_rfl) (by kernel_rfl) (fun _ _ _ h => h) (Or.inl ⟨by rfl, ?_⟩) ⟨((unhide S6).later bz).rp, ((unhide S6).later bz).rq⟩ ?_
  · intro wq hSw; go_simp
  try simp only [Act.put, List.setIfInBounds_toArray, List.set_cons_zero, List.set_cons_succ]
  refine wpAnyH_take (i := 7) (oi := { dst := some 40, op := Op.binOp BinOp.eql 5 (Operand.tmp 38) (Operand.tmp 39) 5, type := 4, pos := "law.go:116", after := #[{ on := 5, ground := Ground.data }, { on := 6, ground := Ground.data }], guard := none }) (v := .bool TU) rfl (by kernel_rfl) (by kernel_rfl) (by kernel_rfl) (fun _ _ _ h => h) (Or.inl ⟨by rfl, ?_⟩) ⟨((unhide S6).later bz).rp, ((unhide S6).later bz).rq⟩ ?_
  · intro wq hSw; go_simp
  try simp only [Act.put, List.setIfInBounds_toArray, List.set_cons_zero, List.set_cons_succ]
  refine wpAnyH_ready (rs := [1]) (by kernel_rfl) (by simp) ?_
  refine AllReadyH.cons (o := { dst := some 34, op := Op.call { callee := Callee.value (Operand.func 10), args := #[Operand.tmp 33], argTypes := #[5] }, type := 9, pos := "law.go:116", after := #[{ on := 0, ground := Ground.data }], guard := none }) rfl (fun K hK => ?_) AllReadyH.nil
  go_simp
  refine (unhide pM _ (unhide KV _ bz)).mono ?_
  rintro e wz ⟨rfl, bn'⟩
  replace bz := bz.trans (Below.mono bn' bz.size)
  clear bn'
  try go_simp
  refine hK.out _ _ ⟨((unhide S6).later bz).rp, ((unhide S6).later bz).rq⟩ (fun hHeld => ?_)
  clear hK K
  try simp only [Act.put, List.setIfInBounds_toArray, List.set_cons_zero, List.set_cons_succ]
  refine wpAnyH_ready (rs := [3]) (by kernel_rfl) (by simp) ?_
  refine AllReadyH.cons (o := { dst := some 36, op := Op.call { callee := Callee.value (Operand.func 10), args := #[Operand.tmp 35], argTypes := #[5] }, type := 9, pos := "law.go:116", after := #[{ on := 2, ground := Ground.data }, { on := 1, ground := Ground.chain }], guard := none }) rfl (fun K hK => ?_) AllReadyH.nil
  go_simp
  refine (unhide qM _ (unhide KV _ bz)).mono ?_
  rintro e wz ⟨rfl, bn'⟩
  replace bz := bz.trans (Below.mono bn' bz.size)
  clear bn'
  try go_simp
  refine hK.out _ _ ⟨((unhide S6).later bz).rp, ((unhide S6).later bz).rq⟩ (fun hHeld => ?_)
  clear hK K
  try simp only [Act.put, List.setIfInBounds_toArray, List.set_cons_zero, List.set_cons_succ]
  refine wpAnyH_take (i := 4) (oi := { dst := some 37, op := Op.binOp BinOp.eql 9 (Operand.tmp 34) (Operand.tmp 36) 9, type := 4, pos := "law.go:116", after := #[{ on := 1, ground := Ground.data }, { on := 3, ground := Ground.data }], guard := none }) (v := .bool TU) rfl (by kernel_rfl) (by kernel_rfl) (by kernel_rfl) (fun _ _ _ h => h) (Or.inl ⟨by rfl, ?_⟩) ⟨((unhide S6).later bz).rp, ((unhide S6).later bz).rq⟩ ?_
  · intro wq hSw; go_simp
  try simp only [Act.put, List.setIfInBounds_toArray, List.set_cons_zero, List.set_cons_succ]
  refine wpAnyH_take (i := 8) (oi := { dst := some 41, op := Op.binOp BinOp.eql 4 (Operand.tmp 37) (Operand.tmp 40) 4, type := 4, pos := "law.go:116", after := #[{ on := 4, ground := Ground.data }, { on := 7, ground := Ground.data }], guard := none }) (v := .bool true) rfl (by kernel_rfl) (by kernel_rfl) (by kernel_rfl) (fun _ _ _ h => h) (Or.inl ⟨by rfl, ?_⟩) ⟨((unhide S6).later bz).rp, ((unhide S6).later bz).rq⟩ ?_
  · intro wq hSw; go_simp
  try simp only [Act.put, List.setIfInBounds_toArray, List.set_cons_zero, List.set_cons_succ]
  refine wpAnyH_take (i := 9) (oi := { dst := some 42, op := Op.move (Operand.tmp 41), type := 4, pos := "law.go:116", after := #[{ on := 8, ground := Ground.data }, { on := 3, ground := Ground.chain }], guard := none }) (v := .bool true) rfl (by kernel_rfl) (by kernel_rfl) (by kernel_rfl) (fun _ _ _ h => h) (Or.inl ⟨by rfl, ?_⟩) ⟨((unhide S6).later bz).rp, ((unhide S6).later bz).rq⟩ ?_
  · intro wq hSw; go_simp
  try simp only [Act.put, List.setIfInBounds_toArray, List.set_cons_zero, List.set_cons_succ]
  refine wpAnyH_take (i := 10) (oi := { dst := some 43, op := Op.move (Operand.tmp 10), type := 23, pos := "law.go:116", after := #[{ on := 9, ground := Ground.guard }], guard := some (9, true) }) (v := .int .i64 0) rfl (by kernel_rfl) (by kernel_rfl) (by kernel_rfl) (fun _ _ _ h => h) (Or.inl ⟨by rfl, ?_⟩) ⟨((unhide S6).later bz).rp, ((unhide S6).later bz).rq⟩ ?_
  · intro wq hSw; go_simp
  try simp only [Act.put, List.setIfInBounds_toArray, List.set_cons_zero, List.set_cons_succ]
  refine wpAnyH_take (i := 11) (oi := { dst := some 44, op := Op.binOp BinOp.neq 23 (Operand.tmp 43) (Operand.const (Value.int IntKind.i64 0)) 23, type := 4, pos := "law.go:116", after := #[{ on := 10, ground := Ground.data }, { on := 9, ground := Ground.guard }], guard := some (9, true) }) (v := .bool false) rfl (by kernel_rfl) (by kernel_rfl) (by kernel_rfl) (fun _ _ _ h => h) (Or.inl ⟨by rfl, ?_⟩) ⟨((unhide S6).later bz).rp, ((unhide S6).later bz).rq⟩ ?_
  · intro wq hSw; go_simp
  try simp only [Act.put, List.setIfInBounds_toArray, List.set_cons_zero, List.set_cons_succ]
  refine wpAnyH_take (i := 12) (oi := { dst := some 45, op := Op.move (Operand.tmp 44), type := 4, pos := "law.go:116", after := #[{ on := 11, ground := Ground.data }, { on := 9, ground := Ground.chain }, { on := 9, ground := Ground.guard }], guard := some (9, true) }) (v := .bool false) rfl (by kernel_rfl) (by kernel_rfl) (by kernel_rfl) (fun _ _ _ h => h) (Or.inl ⟨by rfl, ?_⟩) ⟨((unhide S6).later bz).rp, ((unhide S6).later bz).rq⟩ ?_
  · intro wq hSw; go_simp
  try simp only [Act.put, List.setIfInBounds_toArray, List.set_cons_zero, List.set_cons_succ]
  refine wpAnyH_take (i := 13) (oi := { dst := some 46, op := Op.move (Operand.tmp 12), type := 23, pos := "law.go:116", after := #[{ on := 12, ground := Ground.guard }], guard := some (12, false) }) (v := .int .i64 0) rfl (by kernel_rfl) (by kernel_rfl) (by kernel_rfl) (fun _ _ _ h => h) (Or.inl ⟨by rfl, ?_⟩) ⟨((unhide S6).later bz).rp, ((unhide S6).later bz).rq⟩ ?_
  · intro wq hSw; go_simp
  try simp only [Act.put, List.setIfInBounds_toArray, List.set_cons_zero, List.set_cons_succ]
  refine wpAnyH_take (i := 14) (oi := { dst := some 47, op := Op.binOp BinOp.neq 23 (Operand.tmp 46) (Operand.const (Value.int IntKind.i64 0)) 23, type := 4, pos := "law.go:116", after := #[{ on := 13, ground := Ground.data }, { on := 12, ground := Ground.guard }], guard := some (12, false) }) (v := .bool false) rfl (by kernel_rfl) (by kernel_rfl) (by kernel_rfl) (fun _ _ _ h => h) (Or.inl ⟨by rfl, ?_⟩) ⟨((unhide S6).later bz).rp, ((unhide S6).later bz).rq⟩ ?_
  · intro wq hSw; go_simp
  try simp only [Act.put, List.setIfInBounds_toArray, List.set_cons_zero, List.set_cons_succ]
  refine wpAnyH_take (i := 15) (oi := { dst := some 48, op := Op.pick (Operand.tmp 45) (Operand.const (Value.bool true)) (Operand.tmp 47), type := 4, pos := "law.go:116", after := #[{ on := 12, ground := Ground.data }, { on := 14, ground := Ground.data }, { on := 9, ground := Ground.guard }], guard := some (9, true) }) (v := .bool false) rfl (by kernel_rfl) (by kernel_rfl) (by kernel_rfl) (fun _ _ _ h => h) (Or.inl ⟨by rfl, ?_⟩) ⟨((unhide S6).later bz).rp, ((unhide S6).later bz).rq⟩ ?_
  · intro wq hSw; go_simp
  try simp only [Act.put, List.setIfInBounds_toArray, List.set_cons_zero, List.set_cons_succ]
  refine wpAnyH_take (i := 16) (oi := { dst := some 49, op := Op.move (Operand.tmp 48), type := 4, pos := "law.go:116", after := #[{ on := 15, ground := Ground.data }, { on := 12, ground := Ground.chain }, { on := 9, ground := Ground.guard }], guard := some (9, true) }) (v := .bool false) rfl (by kernel_rfl) (by kernel_rfl) (by kernel_rfl) (fun _ _ _ h => h) (Or.inl ⟨by rfl, ?_⟩) ⟨((unhide S6).later bz).rp, ((unhide S6).later bz).rq⟩ ?_
  · intro wq hSw; go_simp
  try simp only [Act.put, List.setIfInBounds_toArray, List.set_cons_zero, List.set_cons_succ]
  refine wpAnyH_take (i := 17) (oi := { dst := some 50, op := Op.move (Operand.tmp 9), type := 22, pos := "law.go:116", after := #[{ on := 16, ground := Ground.guard }], guard := some (16, false) }) (v := .slice xo xn xc) rfl (by kernel_rfl) (by kernel_rfl) (by kernel_rfl) (fun _ _ _ h => h) (Or.inl ⟨by rfl, ?_⟩) ⟨((unhide S6).later bz).rp, ((unhide S6).later bz).rq⟩ ?_
  · intro wq hSw; go_simp
  try simp only [Act.put, List.setIfInBounds_toArray, List.set_cons_zero, List.set_cons_succ]
  refine wpAnyH_take (i := 18) (oi := { dst := some 51, op := Op.move (Operand.tmp 11), type := 22, pos := "law.go:116", after := #[{ on := 16, ground := Ground.guard }], guard := some (16, false) }) (v := .slice yo yn yc) rfl (by kernel_rfl) (by kernel_rfl) (by kernel_rfl) (fun _ _ _ h => h) (Or.inl ⟨by rfl, ?_⟩) ⟨((unhide S6).later bz).rp, ((unhide S6).later bz).rq⟩ ?_
  · intro wq hSw; go_simp
  try simp only [Act.put, List.setIfInBounds_toArray, List.set_cons_zero, List.set_cons_succ]
  refine wpAnyH_take (i := 20) (oi := { dst := some 53, op := Op.load 35 (Operand.tmp 6), type := 35, pos := "law.go:116", after := #[{ on := 16, ground := Ground.guard }], guard := some (16, false) }) (v := .agg #[.string p.sc, .string p.ta, .string p.ot, .string p.na, .string p.on, .int .u16 p.ch, .int .u32 p.le, .int .u8 p.ty, .int .u16 p.fl, .int .u8 p.de]) rfl (by kernel_rfl) (by kernel_rfl) (by kernel_rfl) (fun _ _ _ h => h) (Or.inl ⟨by rfl, ?_⟩) ⟨((unhide S6).later bz).rp, ((unhide S6).later bz).rq⟩ ?_
  · intro wq hSw; exact run_ld _ _ rfl w.heap.size rfl _ (run_loadVar_row _ _ _ _ _ _ _ hSw.1 Tryd.underlying35 rfl (unhide SZp))
  try simp only [Act.put, List.setIfInBounds_toArray, List.set_cons_zero, List.set_cons_succ]
  refine wpAnyH_take (i := 21) (oi := { dst := some 54, op := Op.load 35 (Operand.tmp 7), type := 35, pos := "law.go:116", after := #[{ on := 16, ground := Ground.guard }], guard := some (16, false) }) (v := .agg #[.string q.sc, .string q.ta, .string q.ot, .string q.na, .string q.on, .int .u16 q.ch, .int .u32 q.le, .int .u8 q.ty, .int .u16 q.fl, .int .u8 q.de]) rfl (by kernel_rfl) (by kernel_rfl) (by kernel_rfl) (fun _ _ _ h => h) (Or.inl ⟨by rfl, ?_⟩) ⟨((unhide S6).later bz).rp, ((unhide S6).later bz).rq⟩ ?_
  · intro wq hSw; exact run_ld _ _ rfl (w.heap.size + 1) rfl _ (run_loadVar_row _ _ _ _ _ _ _ hSw.2 Tryd.underlying35 rfl (unhide SZq))
  try simp only [Act.put, List.setIfInBounds_toArray, List.set_cons_zero, List.set_cons_succ]
  refine wpAnyH_take (i := 22) (oi := { dst := some 55, op := Op.binOp BinOp.eql 35 (Operand.tmp 53) (Operand.tmp 54) 35, type := 4, pos := "law.go:116", after := #[{ on := 20, ground := Ground.data }, { on := 21, ground := Ground.data }, { on := 16, ground := Ground.guard }], guard := some (16, false) }) (v := .bool DD) rfl (by kernel_rfl) (by kernel_rfl) (by kernel_rfl) (fun _ _ _ h => h) (Or.inl ⟨by rfl, ?_⟩) ⟨((unhide S6).later bz).rp, ((unhide S6).later bz).rq⟩ ?_
  · intro wq hSw; go_simp
  try simp only [Act.put, List.setIfInBounds_toArray, List.set_cons_zero, List.set_cons_succ]
  refine wpAnyH_ready (rs := [19]) (by kernel_rfl) (by simp) ?_
  refine AllReadyH.cons (o := { dst := some 52, op := Op.call { callee := Callee.value (Operand.func 9), args := #[Operand.tmp 50, Operand.tmp 51], argTypes := #[22, 22] }, type := 4, pos := "law.go:116", after := #[{ on := 17, ground := Ground.data }, { on := 18, ground := Ground.data }, { on := 16, ground := Ground.chain }, { on := 16, ground := Ground.guard }], guard := some (16, false) }) rfl (fun K hK => ?_) AllReadyH.nil
  go_simp
  refine same_world (unhide KX _ bz) ?_
  try go_simp
  refine hK.out _ _ ⟨((unhide S6).later bz).rp, ((unhide S6).later bz).rq⟩ (fun hHeld => ?_)
  clear hK K
  try simp only [Act.put, List.setIfInBounds_toArray, List.set_cons_zero, List.set_cons_succ]
  refine wpAnyH_take (i := 23) (oi := { dst := some 56, op := Op.binOp BinOp.eql 4 (Operand.tmp 52) (Operand.tmp 55) 4, type := 4, pos := "law.go:116", after := #[{ on := 19, ground := Ground.data }, { on := 22, ground := Ground.data }, { on := 16, ground := Ground.guard }], guard := some (16, false) }) (v := .bool true) rfl (by kernel_rfl) (by kernel_rfl) (by kernel_rfl) (fun _ _ _ h => h) (Or.inl ⟨by rfl, ?_⟩) ⟨((unhide S6).later bz).rp, ((unhide S6).later bz).rq⟩ ?_
  · intro wq hSw; go_simp
  try simp only [Act.put, List.setIfInBounds_toArray, List.set_cons_zero, List.set_cons_succ]
  refine wpAnyH_take (i := 24) (oi := { dst := some 57, op := Op.pick (Operand.tmp 49) (Operand.const (Value.bool true)) (Operand.tmp 56), type := 4, pos := "law.go:116", after := #[{ on := 16, ground := Ground.data }, { on := 23, ground := Ground.data }, { on := 9, ground := Ground.guard }], guard := some (9, true) }) (v := .bool true) rfl (by kernel_rfl) (by kernel_rfl) (by kernel_rfl) (fun _ _ _ h => h) (Or.inl ⟨by rfl, ?_⟩) ⟨((unhide S6).later bz).rp, ((unhide S6).later bz).rq⟩ ?_
  · intro wq hSw; go_simp
  try simp only [Act.put, List.setIfInBounds_toArray, List.set_cons_zero, List.set_cons_succ]
  refine wpAnyH_take (i := 25) (oi := { dst := some 58, op := Op.pick (Operand.tmp 42) (Operand.tmp 57) (Operand.const (Value.bool false)), type := 4, pos := "law.go:116", after := #[{ on := 9, ground := Ground.data }, { on := 24, ground := Ground.data }], guard := none }) (v := .bool true) rfl (by kernel_rfl) (by kernel_rfl) (by kernel_rfl) (fun _ _ _ h => h) (Or.inl ⟨by rfl, ?_⟩) ⟨((unhide S6).later bz).rp, ((unhide S6).later bz).rq⟩ ?_
  · intro wq hSw; go_simp
  try simp only [Act.put, List.setIfInBounds_toArray, List.set_cons_zero, List.set_cons_succ]
  refine wpAnyH_take (i := 26) (oi := { dst := some 8, op := Op.assign (Operand.tmp 58), type := 4, pos := "law.go:116", after := #[{ on := 25, ground := Ground.data }, { on := 19, ground := Ground.chain }, { on := 0, ground := Ground.phase }, { on := 1, ground := Ground.phase }, { on := 2, ground := Ground.phase }, { on := 3, ground := Ground.phase }, { on := 4, ground := Ground.phase }, { on := 5, ground := Ground.phase }, { on := 6, ground := Ground.phase }, { on := 7, ground := Ground.phase }, { on := 8, ground := Ground.phase }, { on := 9, ground := Ground.phase }, { on := 10, ground := Ground.phase }, { on := 11, ground := Ground.phase }, { on := 12, ground := Ground.phase }, { on := 13, ground := Ground.phase }, { on := 14, ground := Ground.phase }, { on := 15, ground := Ground.phase }, { on := 16, ground := Ground.phase }, { on := 17, ground := Ground.phase }, { on := 18, ground := Ground.phase }, { on := 19, ground := Ground.phase }, { on := 20, ground := Ground.phase }, { on := 21, ground := Ground.phase }, { on := 22, ground := Ground.phase }, { on := 23, ground := Ground.phase }, { on := 24, ground := Ground.phase }, { on := 25, ground := Ground.phase }], guard := none }) (v := .bool true) rfl (by kernel_rfl) (by kernel_rfl) (by kernel_rfl) (fun _ _ _ h => h) (Or.inl ⟨by rfl, ?_⟩) ⟨((unhide S6).later bz).rp, ((unhide S6).later bz).rq⟩ ?_
  · intro wq hSw; go_simp
  try simp only [Act.put, List.setIfInBounds_toArray, List.set_cons_zero, List.set_cons_succ]
  refine wpAnyH_done (by kernel_rfl) ?_ _
  go_wp2_with fail
  go_ret
  exact ⟨rfl, ((unhide S6).later bz).bel⟩

theorem lawClApart (t u : Int) (p q : Co) (w : World) (hv : Vars w) (ht : 0 ≤ t ∧ t < 256) (hu : 0 ≤ u ∧ u < 256) (hK : CoK p) (hL : CoK q) :
    Calls Tryd.prog 5 #[.int .u8 t, .int .u8 u, .agg #[.string p.sc, .string p.ta, .string p.ot, .string p.na, .string p.on, .int .u16 p.ch, .int .u32 p.le, .int .u8 p.ty, .int .u16 p.fl, .int .u8 p.de], .agg #[.string q.sc, .string q.ta, .string q.ot, .string q.na, .string q.on, .int .u16 q.ch, .int .u32 q.le, .int .u8 q.ty, .int .u16 q.fl, .int .u8 q.de]] w fun e w' => e = .returned (.bool true) ∧ Below w.heap.size w w' := by
  cases qp : cOk p
  · exact lawClApartA t u p q w hv ht hu hK hL qp
  · cases qq : cOk q
    · exact lawClApartB t u p q w hv ht hu hK hL qp qq
    · exact lawClApartC t u p q w hv ht hu hK hL qp qq

end Go.Proofs.YtgdjeooiimjjcaaDoor
