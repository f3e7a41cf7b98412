/-
  What step of a squeezed reader does, a way through it each: the plain function qstep. Conditions: the state's own bounds; the bytes lie apart from the reader; the tables hold what the program's text says.
-/
import Derived.Test.YtnoabdafmgmenaaGreatDoorSqPart
import Derived.Deep.OwnRows
import Derived.Shelf.Abstract
namespace Go.Proofs.YtnoabdafmgmenaaGreatDoor
open Go.RowKit Go.Shelf
set_option linter.unusedVariables false
set_option linter.unusedSimpArgs false

/-- 'append(out, xs...)', out of the call's own: with the new length told ahead. -/
theorem wpList_appN {ops : Array Oper} {rest : List Oper} {o : Oper} {a : Act} {w : World} {Q : Exit → Act → World → Prop} (hgd : o.guard = none) (s x : Operand)
    (ho : o.op = .call { callee := .builtin .append, args := #[s, x], argTypes := #[31, 31] })
    (B : Nat) (ao : Option Addr) (n c : Nat) (bs : List Int) (hs : a.eval s = .slice ao n c) (hm : Mine B w ao n c bs)
    (ao' : Option Addr) (m c' : Nat) (cs : List Int) (hx : a.eval x = .slice ao' m c') (hb : Bs w ao' m c' cs) (hbound : n + m ≤ 140737488355328) (hB : B ≤ w.heap.size) (N : Nat) (hN : n + m = N)
    (h : ∀ ao1 c1 w1, Mine B w1 ao1 N c1 (bs ++ cs) → Fs (ob ao) w (ob ao1) w1 → wpList Tryz.prog ops Q rest (a.put o.dst (.slice ao1 N c1)) w1) :
    wpList Tryz.prog ops Q (o :: rest) a w := by
  subst hN
  exact wpList_appS hgd s x ho B ao n c bs hs hm ao' m c' cs hx hb hbound hB h
/-- 'make([]byte, 0, n)', as it is carried out. -/
theorem make_at (w : World) (Z : Nat) (hZ : w.heap.size = Z) (C : Int) (n : Nat) (hC : C = (n : Int)) (hbound : n ≤ 140737488355328) :
    ∃ w1, (Instr.makeSlice 31 (.int .i64 0) (.int .i64 C)).run Tryz.prog w = .ok (.slice (some ⟨Z, 0, none⟩) 0 n) w1 ∧ Mine Z w1 (some ⟨Z, 0, none⟩) 0 n [] ∧ Below w.heap.size w w1 := by
  obtain ⟨i0, hi, hz0, hz1, hz2⟩ := info_parts Tryz.infoByte
  obtain ⟨w', hrun, r1, r2⟩ := run_make_own (P := Tryz.prog) w w.heap.size 31 5 i0 (.int .u8 0) 1 Tryz.underlying31 hi hz0 hz1 .i64 .i64 n (by rw [hz2]; omega) (by unfold maxLen; omega) (Nat.le_refl _)
  subst hC
  subst hZ
  exact ⟨w', hrun, ⟨rfl, r1, Byt.nil⟩, (Below.refl _ w).grown r2 (Nat.le_refl _) (fun k hk => by cases hk)⟩

/-- A call of a function that leaves the world, at a step of a region that draws its order. -/
theorem step_call {P : Program} {ops : Array Oper} {o : Oper} {a : Act} {w : World} {K : Act → World → Prop} {Q : Exit → Act → World → Prop} {G : Prop} (hgd : o.guard = none) (f : FuncId) (x y : Operand) (t u : TypeId)
    (ho : o.op = .call { callee := .value (.func f), args := #[x, y], argTypes := #[t, u] }) (eg : ∀ args w, (callFunc f args).run P w = .ok (.enter f args) w)
    (vx vy : Value) (hx : a.eval x = vx) (hy : a.eval y = vy) (v : Value) (hc : Calls P f #[vx, vy] w fun e w' => e = .returned v ∧ w' = w)
    (h : K (a.put o.dst v) w) :
    if Region.wanted o (yielded ops a.tmps) = true then Oper.wp P o a w K Q else G := by
  have hw : Region.wanted o (yielded ops a.tmps) = true := by simp [Region.wanted, hgd]
  rw [if_pos hw]
  have he : a.eval (.func f) = .func (.func f) #[] #[] := rfl
  unfold Oper.wp
  simp [execOp, ho, resolve, invoke, he, eg, go_sem]
  simp [go_sem] at hx hy
  rw [hx, hy]
  refine hc.mono ?_
  rintro e w' ⟨rfl, rfl⟩
  simpa [go_sem] using h

section
variable {g : Nat} {M : Int} {ho : Option Addr} {hc : Nat} {nx y : Int} {l : List Int}

/-- Behind step. -/
def OutSt (w : World) (g : Nat) (M : Int) (ho : Option Addr) (R : QS × List Int × Int) (e : Ending) (w' : World) : Prop :=
  ∃ pa pn pc' ho' hc', e = .returned (.tuple #[.slice pa pn pc', .int .i64 R.2.2]) ∧ Bs w' pa pn pc' R.2.1 ∧ (∀ k, ob pa k → k < w'.heap.size ∧ ¬ fq g ho' k ∧ (fq g ho k ∨ w.heap.size ≤ k)) ∧ Rq w' g M ho' hc' R.1 ∧ Fs (fq g ho) w (fq g ho') w'
theorem OutSt.none {w w' : World} {ho' : Option Addr} {hc' : Nat} {s : QS} {e : Int} (hr : Rq w' g M ho' hc' s) (f : Fs (fq g ho) w (fq g ho') w') : OutSt w g M ho (s, [], e) (.returned (.tuple #[.slice Option.none 0 0, .int .i64 e])) w' :=
  ⟨Option.none, 0, 0, ho', hc', rfl, Bs.nought _, fun k q => absurd q ob_none, hr, f⟩

/-- The row for a head is made. -/
theorem made7 {w w1 : World} (h : Rq w g M ho hc ⟨nx, [], y⟩) (hm : Mine w.heap.size w1 (some ⟨w.heap.size, 0, none⟩) 0 7 []) (hb : Below w.heap.size w w1) :
    (w1.cell? ⟨g, 2, none⟩ = some (.slice ho 0 hc) ∧ w1.frozen? ⟨g, 2, none⟩ = false) ∧ Rq (w1.setCell ⟨g, 2, none⟩ (.slice (some ⟨w.heap.size, 0, none⟩) 0 7)) g M (some ⟨w.heap.size, 0, none⟩) 7 ⟨nx, [], y⟩ ∧ Fs (fq g ho) w (fq g (some ⟨w.heap.size, 0, none⟩)) (w1.setCell ⟨g, 2, none⟩ (.slice (some ⟨w.heap.size, 0, none⟩) 0 7)) := by
  obtain ⟨k, r, f⟩ := h.reheld (hm.mono (Nat.zero_le _)) (Fs.of (S := ob ho) (S' := ob (some ⟨w.heap.size, 0, none⟩)) hb (fun k q => .inr (by have := ob_some.1 q; simp at this; omega))) (by simp)
  exact ⟨k, r, f⟩
/-- What is held moves into a row with room for the frame. -/
theorem realloc {w w3 w4 : World} {l1 : List Int} {n cap : Nat} {o4 : Option Addr} {c4 : Nat} (h : Rq w g M ho hc ⟨nx, l1, y⟩) {Z : Nat} (hZ : w.heap.size = Z) (hm : Mine Z w3 (some ⟨Z, 0, none⟩) 0 cap []) (hb : Below w.heap.size w w3)
    (m4 : Mine 0 w4 o4 n c4 ([] ++ l1)) (g4 : w3.grownBy w4 (Value.slice (some ⟨Z, 0, none⟩) 0 cap).ownBlock) (s4 : ∀ k, ob o4 k → ob (some ⟨Z, 0, none⟩) k ∨ w3.heap.size ≤ k) (hl : l1.length ≤ 1007) :
    (w4.cell? ⟨g, 2, none⟩ = some (.slice ho l1.length hc) ∧ w4.frozen? ⟨g, 2, none⟩ = false) ∧ Rq (w4.setCell ⟨g, 2, none⟩ (.slice o4 n c4)) g M o4 c4 ⟨nx, l1, y⟩ ∧ Fs (fq g ho) w (fq g o4) (w4.setCell ⟨g, 2, none⟩ (.slice o4 n c4)) := by
  rw [List.nil_append] at m4
  subst hZ
  have hz := hb.size
  have b4 : Below w.heap.size w w4 := hb.trans ⟨g4.os, g4.tape, g4.output, g4.size, fun k hk => g4.block k (by omega) (fun e => by simp [Value.ownBlock] at e; omega)⟩
  obtain ⟨k, r, f⟩ := h.reheld m4 (Fs.of (S := ob ho) (S' := ob o4) b4 (fun k q => .inr (by
    rcases s4 k q with q | q
    · have := ob_some.1 q; simp at this; omega
    · omega))) hl
  exact ⟨k, r, f⟩
/-- The frame is told; nothing is held any more. -/
theorem part_out {w w9 wp : World} {l1 : List Int} {h9 : Option Addr} {c9 : Nat} {F1 : List Int} {pa : Option Addr} {pn pcc : Nat} (R9 : Rq w9 g M h9 c9 ⟨nx, l1, y⟩) (F9 : Fs (fq g ho) w (fq g h9) w9) (BP : Below w9.heap.size w9 wp)
    (P1 : Bs wp pa pn pcc F1) (P2 : ∀ k, ob pa k → ob h9 k ∨ w9.heap.size ≤ k ∧ k < wp.heap.size) (RP : Rq wp g M h9 c9 ⟨nx, l1, y⟩) (n0 : 0 ≤ nx) (n1 : nx ≤ 255) :
    OutSt w g M ho (⟨(nx + 1) % 256, [], y⟩, F1, 0) (.returned (.tuple #[.slice pa pn pcc, .int .i64 0])) ((wp.setCell ⟨g, 2, none⟩ (.slice Option.none 0 0)).setCell ⟨g, 1, none⟩ (.int .u8 ((nx + 1) % 256))) := by
  have r := RP.cleared.numbered ((nx + 1) % 256) (by omega) (by omega)
  have hz := BP.size
  have hz9 := F9.size
  have G : Gb g wp ((wp.setCell ⟨g, 2, none⟩ (.slice Option.none 0 0)).setCell ⟨g, 1, none⟩ (.int .u8 ((nx + 1) % 256))) := ((Gb.refl g wp).set 2 _).set 1 _
  have hne : ∀ k, ob pa k → k ≠ g := fun k hk e => by
    rcases P2 k hk with q | q
    · exact R9.gh (e ▸ q)
    · have := R9.lt; omega
  refine ⟨pa, pn, pcc, Option.none, 0, rfl, P1.keepB fun k hk hl => G.block k hl (hne k hk), fun k hk => ⟨?_, ?_, ?_⟩, r, ?_⟩
  · simp
    rcases P2 k hk with q | q
    · have := (R9.own.ob q).2; omega
    · exact q.2
  · intro q
    rcases q with q | q
    · exact hne k hk q
    · exact absurd q ob_none
  · rcases P2 k hk with q | q
    · exact F9.src k (.inr q)
    · exact .inr (by omega)
  · refine (F9.trans (Fs.of (S' := fq g h9) BP (fun k q => .inl q))).trans ((Fs.gb (S := fq g h9) G (.inl rfl)).weak (fun k q => q) (fun k q => ?_))
    rcases q with q | q
    · exact .inl (.inl q)
    · exact absurd q ob_none


set_option maxHeartbeats 4000000 in
set_option maxRecDepth 20000 in
theorem step_short (w : World) (h : Rq w g M ho hc ⟨nx, l, y⟩) (bo : Option Addr) (cn cc : Nat) (c : List Int) (hb : Bs w bo cn cc c) (hap : ∀ k, ob bo k → ¬ fq g ho k) (l1 : List Int) (hl1 : l ++ c = l1) (h7 : l1.length < 7) :
    Calls Tryz.prog 20 #[.pointer (some ⟨g, 0, none⟩), .slice bo cn cc] w fun e w' => OutSt w g M ho (⟨nx, l1, y⟩, [], 0) e w' := by
  have hlen := hb.len
  have hble := hb.le
  have hbmx := hb.max
  have hlmx := h.ok.hl
  simp only at hlmx
  obtain ⟨K, hK⟩ : ∃ K, l.length + cn = K := ⟨_, rfl⟩
  have hKl : l1.length = K := by rw [← hl1, List.length_append]; omega
  have c2 := h.c2
  simp only at c2
  have n0 := h.ok.n0
  have n1 := h.ok.n1
  simp only at n0 n1
  have HR := hide h
  have HB := hide hb
  have HA := hide hap
  have HL := hide hKl
  have HL1 := hide hl1
  have h7' : K < 7 := by omega
  have hm := hide (fun w' hoa hca (hr : Rq w' g M hoa hca ⟨nx, l1, y⟩) => qMissing_any w' hr (fun q => absurd h7 q))
  have hq : 0 < (qM ⟨nx, l1, y⟩ : Int) := by unfold qM; simp only; rw [if_pos h7]; omega
  generalize (qM ⟨nx, l1, y⟩ : Int) = Q at *
  have b7 : ((K : Int) == 7) = false := by rw [beq_eq_false_iff_ne]; omega
  clear h hb hap h7 hlen hKl hl1
  by_cases h0 : l = []
  · skip
    subst h0
    rw [List.length_nil] at c2 hK
    go_enter Tryz.func20, Tryz.ntmps20
    go_wp2_with (first
      | (at_make; refine wpList_mk rfl _ _ rfl _ _ _ 7 rfl rfl rfl (by omega) ?_; intro w1 hm1 hb1 hz1; obtain ⟨⟨k2, kf2⟩, ra, fa⟩ := made7 (unhide HR) hm1 hb1; have d2 := ra.c2; rw [List.length_nil] at d2; have RA := hide ra; have FA := hide fa; have BA := hide ((unhide HB).fs fa (unhide HA)); clear hm1 hb1 ra fa)
      | (at_builtin; refine wpList_appN rfl (.tmp 23) (.tmp 24) rfl 0 _ _ _ _ rfl (unhide RA).own _ _ _ _ rfl (unhide BA) (by omega) (Nat.zero_le _) K hK ?_; intro ob' cb wb mb fb; rw [unhide HL1] at mb; obtain ⟨⟨e2, ef2⟩, rc, fc⟩ := (unhide RA).reheld mb fb (by rw [unhide HL]; omega); (try rw [List.length_nil] at e2); have g2 := rc.c2; simp only at g2; rw [unhide HL] at g2; have RC := hide rc; have FC := hide ((unhide FA).trans fc); have hct := rc.own.bs.le; clear mb fb rc fc)
      | (go_at_call 19; refine (unhide hm _ _ _ (unhide RC)).mono ?_; rintro e w' ⟨rfl, j, rfl⟩; have RD := hide ((unhide RC).drewN j); have FD := hide ((unhide FC).drewN j)))
    go_ret2
    exact OutSt.none (unhide RD) (unhide FD)
  · skip
    have b0 : ((l.length : Int) == 0) = false := by rw [beq_eq_false_iff_ne]; have : l.length ≠ 0 := fun q => h0 (List.eq_nil_of_length_eq_zero q); omega
    have RA := HR
    have FA := hide (Fs.refl (fq g ho) w)
    have BA := HB
    go_enter Tryz.func20, Tryz.ntmps20
    go_wp2_with (first
      | (at_make; refine wpList_mk rfl _ _ rfl _ _ _ 7 rfl rfl rfl (by omega) ?_; intro w1 hm1 hb1 hz1; obtain ⟨⟨k2, kf2⟩, ra, fa⟩ := made7 (unhide HR) hm1 hb1; have d2 := ra.c2; rw [List.length_nil] at d2; have RA := hide ra; have FA := hide fa; have BA := hide ((unhide HB).fs fa (unhide HA)); clear hm1 hb1 ra fa)
      | (at_builtin; refine wpList_appN rfl (.tmp 23) (.tmp 24) rfl 0 _ _ _ _ rfl (unhide RA).own _ _ _ _ rfl (unhide BA) (by omega) (Nat.zero_le _) K hK ?_; intro ob' cb wb mb fb; rw [unhide HL1] at mb; obtain ⟨⟨e2, ef2⟩, rc, fc⟩ := (unhide RA).reheld mb fb (by rw [unhide HL]; omega); (try rw [List.length_nil] at e2); have g2 := rc.c2; simp only at g2; rw [unhide HL] at g2; have RC := hide rc; have FC := hide ((unhide FA).trans fc); have hct := rc.own.bs.le; clear mb fb rc fc)
      | (go_at_call 19; refine (unhide hm _ _ _ (unhide RC)).mono ?_; rintro e w' ⟨rfl, j, rfl⟩; have RD := hide ((unhide RC).drewN j); have FD := hide ((unhide FC).drewN j)))
    go_ret2
    exact OutSt.none (unhide RD) (unhide FD)

set_option maxHeartbeats 4000000 in
set_option maxRecDepth 20000 in
theorem step_bad (w : World) (h : Rq w g M ho hc ⟨nx, l, y⟩) (bo : Option Addr) (cn cc : Nat) (c : List Int) (hb : Bs w bo cn cc c) (hap : ∀ k, ob bo k → ¬ fq g ho k) (l1 : List Int) (hl1 : l ++ c = l1) (h7 : l1.length = 7) (he : qE M ⟨nx, l1, y⟩ ≠ 0) :
    Calls Tryz.prog 20 #[.pointer (some ⟨g, 0, none⟩), .slice bo cn cc] w fun e w' => OutSt w g M ho (⟨nx, l1, y⟩, [], qE M ⟨nx, l1, y⟩) e w' := by
  have hlen := hb.len
  have hble := hb.le
  have hbmx := hb.max
  have hlmx := h.ok.hl
  simp only at hlmx
  obtain ⟨K, hK⟩ : ∃ K, l.length + cn = K := ⟨_, rfl⟩
  have hKl : l1.length = K := by rw [← hl1, List.length_append]; omega
  have c2 := h.c2
  simp only at c2
  have n0 := h.ok.n0
  have n1 := h.ok.n1
  simp only at n0 n1
  have HR := hide h
  have HB := hide hb
  have HA := hide hap
  have HL := hide hKl
  have HL1 := hide hl1
  have h7' : K = 7 := by omega
  subst h7'
  have hk := hide (fun w' hoa hca (hr : Rq w' g M hoa hca ⟨nx, l1, y⟩) => qCheck_any w' hr (by simp only; omega))
  have be : (qE M ⟨nx, l1, y⟩ != 0) = true := by rw [bne_iff_ne]; exact he
  clear h hb hap h7 hlen hKl hl1 he
  generalize qE M ⟨nx, l1, y⟩ = E at *
  by_cases h0 : l = []
  · skip
    subst h0
    rw [List.length_nil] at c2 hK
    go_enter Tryz.func20, Tryz.ntmps20
    go_wp2_with (first
      | (at_make; refine wpList_mk rfl _ _ rfl _ _ _ 7 rfl rfl rfl (by omega) ?_; intro w1 hm1 hb1 hz1; obtain ⟨⟨k2, kf2⟩, ra, fa⟩ := made7 (unhide HR) hm1 hb1; have d2 := ra.c2; rw [List.length_nil] at d2; have RA := hide ra; have FA := hide fa; have BA := hide ((unhide HB).fs fa (unhide HA)); clear hm1 hb1 ra fa)
      | (at_builtin; refine wpList_appN rfl (.tmp 23) (.tmp 24) rfl 0 _ _ _ _ rfl (unhide RA).own _ _ _ _ rfl (unhide BA) (by omega) (Nat.zero_le _) 7 hK ?_; intro ob' cb wb mb fb; rw [unhide HL1] at mb; obtain ⟨⟨e2, ef2⟩, rc, fc⟩ := (unhide RA).reheld mb fb (by rw [unhide HL]; omega); (try rw [List.length_nil] at e2); have g2 := rc.c2; simp only at g2; rw [unhide HL] at g2; have RC := hide rc; have FC := hide ((unhide FA).trans fc); have hct := rc.own.bs.le; clear mb fb rc fc)
      | (go_at_call 27; refine (unhide hk _ _ _ (unhide RC)).mono ?_; rintro e w' ⟨rfl, j, hw'⟩; have RD := hide (show Rq w' g M ob' cb ⟨nx, l1, y⟩ by rw [hw']; exact (unhide RC).drewN j); have FD := hide (show Fs (fq g ho) w (fq g ob') w' by rw [hw']; exact (unhide FC).drewN j); clear hw'))
    go_ret2
    exact OutSt.none (unhide RD) (unhide FD)
  · skip
    have b0 : ((l.length : Int) == 0) = false := by rw [beq_eq_false_iff_ne]; have : l.length ≠ 0 := fun q => h0 (List.eq_nil_of_length_eq_zero q); omega
    have RA := HR
    have FA := hide (Fs.refl (fq g ho) w)
    have BA := HB
    go_enter Tryz.func20, Tryz.ntmps20
    go_wp2_with (first
      | (at_make; refine wpList_mk rfl _ _ rfl _ _ _ 7 rfl rfl rfl (by omega) ?_; intro w1 hm1 hb1 hz1; obtain ⟨⟨k2, kf2⟩, ra, fa⟩ := made7 (unhide HR) hm1 hb1; have d2 := ra.c2; rw [List.length_nil] at d2; have RA := hide ra; have FA := hide fa; have BA := hide ((unhide HB).fs fa (unhide HA)); clear hm1 hb1 ra fa)
      | (at_builtin; refine wpList_appN rfl (.tmp 23) (.tmp 24) rfl 0 _ _ _ _ rfl (unhide RA).own _ _ _ _ rfl (unhide BA) (by omega) (Nat.zero_le _) 7 hK ?_; intro ob' cb wb mb fb; rw [unhide HL1] at mb; obtain ⟨⟨e2, ef2⟩, rc, fc⟩ := (unhide RA).reheld mb fb (by rw [unhide HL]; omega); (try rw [List.length_nil] at e2); have g2 := rc.c2; simp only at g2; rw [unhide HL] at g2; have RC := hide rc; have FC := hide ((unhide FA).trans fc); have hct := rc.own.bs.le; clear mb fb rc fc)
      | (go_at_call 27; refine (unhide hk _ _ _ (unhide RC)).mono ?_; rintro e w' ⟨rfl, j, hw'⟩; have RD := hide (show Rq w' g M ob' cb ⟨nx, l1, y⟩ by rw [hw']; exact (unhide RC).drewN j); have FD := hide (show Fs (fq g ho) w (fq g ob') w' by rw [hw']; exact (unhide FC).drewN j); clear hw'))
    go_ret2
    exact OutSt.none (unhide RD) (unhide FD)

set_option maxHeartbeats 4000000 in
set_option maxRecDepth 20000 in
theorem step_begun (w : World) (h : Rq w g M ho hc ⟨nx, l, y⟩) (bo : Option Addr) (cn cc : Nat) (c : List Int) (hb : Bs w bo cn cc c) (hap : ∀ k, ob bo k → ¬ fq g ho k) (l1 : List Int) (hl1 : l ++ c = l1) (h7 : l1.length = 7) (he : qE M ⟨nx, l1, y⟩ = 0) (hn : 0 < qN l1) :
    Calls Tryz.prog 20 #[.pointer (some ⟨g, 0, none⟩), .slice bo cn cc] w fun e w' => OutSt w g M ho (⟨nx, l1, y⟩, [], 0) e w' := by
  have hlen := hb.len
  have hble := hb.le
  have hbmx := hb.max
  have hlmx := h.ok.hl
  simp only at hlmx
  obtain ⟨K, hK⟩ : ∃ K, l.length + cn = K := ⟨_, rfl⟩
  have hKl : l1.length = K := by rw [← hl1, List.length_append]; omega
  have c2 := h.c2
  simp only at c2
  have n0 := h.ok.n0
  have n1 := h.ok.n1
  simp only at n0 n1
  have HR := hide h
  have HB := hide hb
  have HA := hide hap
  have HL := hide hKl
  have HL1 := hide hl1
  have h7' : K = 7 := by omega
  subst h7'
  have hk := hide (fun w' hoa hca (hr : Rq w' g M hoa hca ⟨nx, l1, y⟩) => qCheck_any w' hr (by simp only; omega))
  rw [he] at hk
  obtain ⟨N, hN⟩ : ∃ N, N = qN l1 := ⟨_, rfl⟩
  have hbl : Byt l1 := by rw [← hl1]; exact h.own.byt.app hb.byt
  have HN := hide (show (N : Int) = val l1 3 by rw [hN]; exact qN_int hbl)
  have hN1 : N ≤ 1000 := by have := (qN_le (M := M) (s := ⟨nx, l1, y⟩) hbl he).1; simp only at this; have := h.ok.m1; omega
  have hm := hide (fun w' hoa hca (hr : Rq w' g M hoa hca ⟨nx, l1, y⟩) => qMissing_any w' hr (fun q => by simp only; omega))
  have hq : 0 < (qM ⟨nx, l1, y⟩ : Int) := by unfold qM; simp only; rw [if_neg (by omega)]; omega
  generalize (qM ⟨nx, l1, y⟩ : Int) = Q at *
  clear h hb hap h7 hlen hKl hl1 he hn hN hbl
  by_cases h0 : l = []
  · skip
    subst h0
    rw [List.length_nil] at c2 hK
    go_enter Tryz.func20, Tryz.ntmps20
    go_wp2_with (first
      | (at_make; refine wpList_mk rfl _ _ rfl _ _ _ 7 rfl rfl rfl (by omega) ?_; intro w1 hm1 hb1 hz1; obtain ⟨⟨k2, kf2⟩, ra, fa⟩ := made7 (unhide HR) hm1 hb1; have d2 := ra.c2; rw [List.length_nil] at d2; have RA := hide ra; have FA := hide fa; have BA := hide ((unhide HB).fs fa (unhide HA)); clear hm1 hb1 ra fa)
      | (at_builtin; refine wpList_appN rfl (.tmp 23) (.tmp 24) rfl 0 _ _ _ _ rfl (unhide RA).own _ _ _ _ rfl (unhide BA) (by omega) (Nat.zero_le _) 7 hK ?_; intro ob' cb wb mb fb; rw [unhide HL1] at mb; obtain ⟨⟨e2, ef2⟩, rc, fc⟩ := (unhide RA).reheld mb fb (by rw [unhide HL]; omega); (try rw [List.length_nil] at e2); have g2 := rc.c2; simp only at g2; rw [unhide HL] at g2; have RC := hide rc; have FC := hide ((unhide FA).trans fc); have hct := rc.own.bs.le; clear mb fb rc fc)
      | (go_at_call 27; refine (unhide hk _ _ _ (unhide RC)).mono ?_; rintro e w' ⟨rfl, j, hw'⟩; have RD := hide (show Rq w' g M ob' cb ⟨nx, l1, y⟩ by rw [hw']; exact (unhide RC).drewN j); have FD := hide (show Fs (fq g ho) w (fq g ob') w' by rw [hw']; exact (unhide FC).drewN j); clear hw'))
    have RDd := hide (unhide RD).drew
    obtain ⟨pb, po, hpo, hpc⟩ := (unhide RD).own.bs.at'.resolve_left (by simp only; rw [unhide HL]; omega)
    subst hpo
    have hlc := (unhide RD).own.bs
    simp only at hlc
    rw [unhide HL] at hlc
    have HLC := hide (show Bs w'.drew (some ⟨pb, po, none⟩) 7 cb l1 from hlc.later (below_drew _))
    have x2 : w'.cell? ⟨g, 2, none⟩ = some (.slice (some ⟨pb, po, none⟩) 7 cb) := by have := (unhide RD).c2; simp only at this; rw [unhide HL] at this; exact this
    have x2d : w'.drew.cell? ⟨g, 2, none⟩ = some (.slice (some ⟨pb, po, none⟩) 7 cb) := x2
    have gl := (unhide RD).lt
    have KC := hide (fun (w3 : World) (b3 : Below w'.drew.heap.size w'.drew w3) => (show w3.cell? ⟨g, 2, none⟩ = some (.slice (some ⟨pb, po, none⟩) 7 cb) from (b3.cell (p := ⟨g, 2, none⟩) gl).trans x2d))
    have cl := hide (show Calls Tryz.prog 26 #[.pointer (some ⟨g, 0, none⟩), .int .i64 0] w'.drew fun e w2 => e = .returned (.int .i64 (N : Int)) ∧ w2 = w'.drew by
      have := qLength_any w'.drew (unhide RDd) 0 (by simp only; rw [unhide HL]; omega) 0 rfl
      rw [List.drop_zero] at this
      rw [unhide HN]
      exact this)
    have hN7 : IntKind.i64.wrap (7 + (N : Int)) = ((7 + N : Nat) : Int) := by rw [IntKind.wrap_i64]; omega
    obtain ⟨Z, hZ⟩ : ∃ Z, w'.drew.heap.size = Z := ⟨_, rfl⟩
    obtain ⟨w3, hrun3, m3, b3⟩ := make_at w'.drew Z hZ (7 + (N : Int)) (7 + N) (by omega) (by omega)
    have M3 := hide m3
    have HZ := hide hZ
    clear m3 hZ
    clear hlc hpc g2 hct
    have x23 := unhide KC _ b3
    go_region_law (first
      | (refine step_call rfl 26 _ _ _ _ rfl (enters_of Tryz.func26 (by kernel_rfl) rfl) (.pointer (some ⟨g, 0, none⟩)) (.int .i64 0) (by simp [Act.eval, Act.put]) (by simp [Act.eval, Act.put]) _ (unhide cl) ?_)
      | (refine step_appF rfl (.tmp 43) (.tmp 47) rfl 0 (some ⟨Z, 0, none⟩) 0 (7 + N) [] (by simp [Act.eval, Act.put]) ((unhide M3).mono (Nat.zero_le _)) ⟨pb, po, none⟩ 7 cb l1 (by simp [Act.eval, Act.put]) ((unhide HLC).later b3) (by omega) (Nat.zero_le _) ?_; intro o4 c4 w4 m4 g4 s4; obtain ⟨⟨qq2, qqf⟩, r4, f4⟩ := realloc (unhide RDd) (unhide HZ) (unhide M3) b3 m4 g4 s4 (by rw [unhide HL]; omega); rw [unhide HL] at qq2; have R4 := hide r4; have F4 := hide f4; clear m4 g4 s4 r4 f4))
    all_goals go_wp2_with (go_at_call 19; refine (unhide hm _ _ _ (unhide R4)).mono ?_; rintro e w9 ⟨rfl, j9, rfl⟩)
    all_goals go_ret2
    all_goals exact OutSt.none ((unhide R4).drewN j9) (((unhide FD).drew.trans (unhide F4)).drewN j9)
  · skip
    have b0 : ((l.length : Int) == 0) = false := by rw [beq_eq_false_iff_ne]; have : l.length ≠ 0 := fun q => h0 (List.eq_nil_of_length_eq_zero q); omega
    have RA := HR
    have FA := hide (Fs.refl (fq g ho) w)
    have BA := HB
    go_enter Tryz.func20, Tryz.ntmps20
    go_wp2_with (first
      | (at_make; refine wpList_mk rfl _ _ rfl _ _ _ 7 rfl rfl rfl (by omega) ?_; intro w1 hm1 hb1 hz1; obtain ⟨⟨k2, kf2⟩, ra, fa⟩ := made7 (unhide HR) hm1 hb1; have d2 := ra.c2; rw [List.length_nil] at d2; have RA := hide ra; have FA := hide fa; have BA := hide ((unhide HB).fs fa (unhide HA)); clear hm1 hb1 ra fa)
      | (at_builtin; refine wpList_appN rfl (.tmp 23) (.tmp 24) rfl 0 _ _ _ _ rfl (unhide RA).own _ _ _ _ rfl (unhide BA) (by omega) (Nat.zero_le _) 7 hK ?_; intro ob' cb wb mb fb; rw [unhide HL1] at mb; obtain ⟨⟨e2, ef2⟩, rc, fc⟩ := (unhide RA).reheld mb fb (by rw [unhide HL]; omega); (try rw [List.length_nil] at e2); have g2 := rc.c2; simp only at g2; rw [unhide HL] at g2; have RC := hide rc; have FC := hide ((unhide FA).trans fc); have hct := rc.own.bs.le; clear mb fb rc fc)
      | (go_at_call 27; refine (unhide hk _ _ _ (unhide RC)).mono ?_; rintro e w' ⟨rfl, j, hw'⟩; have RD := hide (show Rq w' g M ob' cb ⟨nx, l1, y⟩ by rw [hw']; exact (unhide RC).drewN j); have FD := hide (show Fs (fq g ho) w (fq g ob') w' by rw [hw']; exact (unhide FC).drewN j); clear hw'))
    have RDd := hide (unhide RD).drew
    obtain ⟨pb, po, hpo, hpc⟩ := (unhide RD).own.bs.at'.resolve_left (by simp only; rw [unhide HL]; omega)
    subst hpo
    have hlc := (unhide RD).own.bs
    simp only at hlc
    rw [unhide HL] at hlc
    have HLC := hide (show Bs w'.drew (some ⟨pb, po, none⟩) 7 cb l1 from hlc.later (below_drew _))
    have x2 : w'.cell? ⟨g, 2, none⟩ = some (.slice (some ⟨pb, po, none⟩) 7 cb) := by have := (unhide RD).c2; simp only at this; rw [unhide HL] at this; exact this
    have x2d : w'.drew.cell? ⟨g, 2, none⟩ = some (.slice (some ⟨pb, po, none⟩) 7 cb) := x2
    have gl := (unhide RD).lt
    have KC := hide (fun (w3 : World) (b3 : Below w'.drew.heap.size w'.drew w3) => (show w3.cell? ⟨g, 2, none⟩ = some (.slice (some ⟨pb, po, none⟩) 7 cb) from (b3.cell (p := ⟨g, 2, none⟩) gl).trans x2d))
    have cl := hide (show Calls Tryz.prog 26 #[.pointer (some ⟨g, 0, none⟩), .int .i64 0] w'.drew fun e w2 => e = .returned (.int .i64 (N : Int)) ∧ w2 = w'.drew by
      have := qLength_any w'.drew (unhide RDd) 0 (by simp only; rw [unhide HL]; omega) 0 rfl
      rw [List.drop_zero] at this
      rw [unhide HN]
      exact this)
    have hN7 : IntKind.i64.wrap (7 + (N : Int)) = ((7 + N : Nat) : Int) := by rw [IntKind.wrap_i64]; omega
    obtain ⟨Z, hZ⟩ : ∃ Z, w'.drew.heap.size = Z := ⟨_, rfl⟩
    obtain ⟨w3, hrun3, m3, b3⟩ := make_at w'.drew Z hZ (7 + (N : Int)) (7 + N) (by omega) (by omega)
    have M3 := hide m3
    have HZ := hide hZ
    clear m3 hZ
    clear hlc hpc g2 hct
    have x23 := unhide KC _ b3
    go_region_law (first
      | (refine step_call rfl 26 _ _ _ _ rfl (enters_of Tryz.func26 (by kernel_rfl) rfl) (.pointer (some ⟨g, 0, none⟩)) (.int .i64 0) (by simp [Act.eval, Act.put]) (by simp [Act.eval, Act.put]) _ (unhide cl) ?_)
      | (refine step_appF rfl (.tmp 43) (.tmp 47) rfl 0 (some ⟨Z, 0, none⟩) 0 (7 + N) [] (by simp [Act.eval, Act.put]) ((unhide M3).mono (Nat.zero_le _)) ⟨pb, po, none⟩ 7 cb l1 (by simp [Act.eval, Act.put]) ((unhide HLC).later b3) (by omega) (Nat.zero_le _) ?_; intro o4 c4 w4 m4 g4 s4; obtain ⟨⟨qq2, qqf⟩, r4, f4⟩ := realloc (unhide RDd) (unhide HZ) (unhide M3) b3 m4 g4 s4 (by rw [unhide HL]; omega); rw [unhide HL] at qq2; have R4 := hide r4; have F4 := hide f4; clear m4 g4 s4 r4 f4))
    all_goals go_wp2_with (go_at_call 19; refine (unhide hm _ _ _ (unhide R4)).mono ?_; rintro e w9 ⟨rfl, j9, rfl⟩)
    all_goals go_ret2
    all_goals exact OutSt.none ((unhide R4).drewN j9) (((unhide FD).drew.trans (unhide F4)).drewN j9)

set_option maxHeartbeats 4000000 in
set_option maxRecDepth 20000 in
theorem step_empty_fine (w : World) (h : Rq w g M ho hc ⟨nx, l, y⟩) (bo : Option Addr) (cn cc : Nat) (c : List Int) (hb : Bs w bo cn cc c) (hap : ∀ k, ob bo k → ¬ fq g ho k) (l1 : List Int) (hl1 : l ++ c = l1) (h7 : l1.length = 7) (he : qE M ⟨nx, l1, y⟩ = 0) (hql : l1.length = 7 + qN l1) (hqt : qT l1 ≤ 1000) (hfe : (qfr l1).2 = 0) (hvs : ∀ w2 ho2, Fs (fq g ho) w (fq g ho2) w2 → Vars w2) :
    Calls Tryz.prog 20 #[.pointer (some ⟨g, 0, none⟩), .slice bo cn cc] w fun e w' => OutSt w g M ho (⟨(nx + 1) % 256, [], y⟩, (qfr l1).1, 0) e w' := by
  have hlen := hb.len
  have hble := hb.le
  have hbmx := hb.max
  have hlmx := h.ok.hl
  simp only at hlmx
  obtain ⟨K, hK⟩ : ∃ K, l.length + cn = K := ⟨_, rfl⟩
  have hKl : l1.length = K := by rw [← hl1, List.length_append]; omega
  have c2 := h.c2
  simp only at c2
  have n0 := h.ok.n0
  have n1 := h.ok.n1
  simp only at n0 n1
  have HR := hide h
  have HB := hide hb
  have HA := hide hap
  have HL := hide hKl
  have HL1 := hide hl1
  have h7' : K = 7 := by omega
  subst h7'
  have hk := hide (fun w' hoa hca (hr : Rq w' g M hoa hca ⟨nx, l1, y⟩) => qCheck_any w' hr (by simp only; omega))
  rw [he] at hk
  obtain ⟨N, hN⟩ : ∃ N, N = qN l1 := ⟨_, rfl⟩
  have hbl : Byt l1 := by rw [← hl1]; exact h.own.byt.app hb.byt
  have HN := hide (show (N : Int) = val l1 3 by rw [hN]; exact qN_int hbl)
  have hN1 : N ≤ 1000 := by have := (qN_le (M := M) (s := ⟨nx, l1, y⟩) hbl he).1; simp only at this; have := h.ok.m1; omega
  have HV := hide (fun w2 ho2 (f : Fs (fq g ho) w (fq g ho2) w2) => hvs w2 ho2 f)
  have HQN := hide (show (⟨nx, l1, y⟩ : QS).held.length = 7 + qN (⟨nx, l1, y⟩ : QS).held from hql)
  have HQT := hide (show qT (⟨nx, l1, y⟩ : QS).held ≤ 1000 from hqt)
  obtain ⟨F, hF⟩ : ∃ F, F = qfr l1 := ⟨_, rfl⟩
  rw [← hF] at hfe ⊢
  have HQF := hide (show qfr (⟨nx, l1, y⟩ : QS).held = F from hF.symm)
  obtain ⟨F1, F2⟩ := F
  simp only at hfe ⊢
  have hm := hide (fun w' hoa hca (hr : Rq w' g M hoa hca ⟨nx, l1, y⟩) => qMissing_any w' hr (fun q => by simp only; omega))
  have hq : (qM ⟨nx, l1, y⟩ : Int) = 0 := by unfold qM; simp only; rw [if_neg (by omega)]; omega
  rw [hq] at hm
  clear h hb hap h7 hlen hKl hl1 he hN hbl hq hF
  subst hfe
  by_cases h0 : l = []
  · skip
    subst h0
    rw [List.length_nil] at c2 hK
    go_enter Tryz.func20, Tryz.ntmps20
    go_wp2_with (first
      | (at_make; refine wpList_mk rfl _ _ rfl _ _ _ 7 rfl rfl rfl (by omega) ?_; intro w1 hm1 hb1 hz1; obtain ⟨⟨k2, kf2⟩, ra, fa⟩ := made7 (unhide HR) hm1 hb1; have d2 := ra.c2; rw [List.length_nil] at d2; have RA := hide ra; have FA := hide fa; have BA := hide ((unhide HB).fs fa (unhide HA)); clear hm1 hb1 ra fa)
      | (at_builtin; refine wpList_appN rfl (.tmp 23) (.tmp 24) rfl 0 _ _ _ _ rfl (unhide RA).own _ _ _ _ rfl (unhide BA) (by omega) (Nat.zero_le _) 7 hK ?_; intro ob' cb wb mb fb; rw [unhide HL1] at mb; obtain ⟨⟨e2, ef2⟩, rc, fc⟩ := (unhide RA).reheld mb fb (by rw [unhide HL]; omega); (try rw [List.length_nil] at e2); have g2 := rc.c2; simp only at g2; rw [unhide HL] at g2; have RC := hide rc; have FC := hide ((unhide FA).trans fc); have hct := rc.own.bs.le; clear mb fb rc fc)
      | (go_at_call 27; refine (unhide hk _ _ _ (unhide RC)).mono ?_; rintro e w' ⟨rfl, j, hw'⟩; have RD := hide (show Rq w' g M ob' cb ⟨nx, l1, y⟩ by rw [hw']; exact (unhide RC).drewN j); have FD := hide (show Fs (fq g ho) w (fq g ob') w' by rw [hw']; exact (unhide FC).drewN j); clear hw'))
    have RDd := hide (unhide RD).drew
    obtain ⟨pb, po, hpo, hpc⟩ := (unhide RD).own.bs.at'.resolve_left (by simp only; rw [unhide HL]; omega)
    subst hpo
    have hlc := (unhide RD).own.bs
    simp only at hlc
    rw [unhide HL] at hlc
    have HLC := hide (show Bs w'.drew (some ⟨pb, po, none⟩) 7 cb l1 from hlc.later (below_drew _))
    have x2 : w'.cell? ⟨g, 2, none⟩ = some (.slice (some ⟨pb, po, none⟩) 7 cb) := by have := (unhide RD).c2; simp only at this; rw [unhide HL] at this; exact this
    have x2d : w'.drew.cell? ⟨g, 2, none⟩ = some (.slice (some ⟨pb, po, none⟩) 7 cb) := x2
    have gl := (unhide RD).lt
    have KC := hide (fun (w3 : World) (b3 : Below w'.drew.heap.size w'.drew w3) => (show w3.cell? ⟨g, 2, none⟩ = some (.slice (some ⟨pb, po, none⟩) 7 cb) from (b3.cell (p := ⟨g, 2, none⟩) gl).trans x2d))
    have cl := hide (show Calls Tryz.prog 26 #[.pointer (some ⟨g, 0, none⟩), .int .i64 0] w'.drew fun e w2 => e = .returned (.int .i64 (N : Int)) ∧ w2 = w'.drew by
      have := qLength_any w'.drew (unhide RDd) 0 (by simp only; rw [unhide HL]; omega) 0 rfl
      rw [List.drop_zero] at this
      rw [unhide HN]
      exact this)
    have hN7 : IntKind.i64.wrap (7 + (N : Int)) = ((7 + N : Nat) : Int) := by rw [IntKind.wrap_i64]; omega
    obtain ⟨Z, hZ⟩ : ∃ Z, w'.drew.heap.size = Z := ⟨_, rfl⟩
    obtain ⟨w3, hrun3, m3, b3⟩ := make_at w'.drew Z hZ (7 + (N : Int)) (7 + N) (by omega) (by omega)
    have M3 := hide m3
    have HZ := hide hZ
    clear m3 hZ
    clear hlc hpc g2 hct
    have x23 := unhide KC _ b3
    go_region_law (first
      | (refine step_call rfl 26 _ _ _ _ rfl (enters_of Tryz.func26 (by kernel_rfl) rfl) (.pointer (some ⟨g, 0, none⟩)) (.int .i64 0) (by simp [Act.eval, Act.put]) (by simp [Act.eval, Act.put]) _ (unhide cl) ?_)
      | (refine step_appF rfl (.tmp 43) (.tmp 47) rfl 0 (some ⟨Z, 0, none⟩) 0 (7 + N) [] (by simp [Act.eval, Act.put]) ((unhide M3).mono (Nat.zero_le _)) ⟨pb, po, none⟩ 7 cb l1 (by simp [Act.eval, Act.put]) ((unhide HLC).later b3) (by omega) (Nat.zero_le _) ?_; intro o4 c4 w4 m4 g4 s4; obtain ⟨⟨qq2, qqf⟩, r4, f4⟩ := realloc (unhide RDd) (unhide HZ) (unhide M3) b3 m4 g4 s4 (by rw [unhide HL]; omega); rw [unhide HL] at qq2; have R4 := hide r4; have F4 := hide f4; clear m4 g4 s4 r4 f4))
    all_goals have F0 := hide ((unhide FD).drew.trans (unhide F4))
    all_goals go_wp2_with (first
      | (go_at_call 19; refine (unhide hm _ _ _ (unhide R4)).mono ?_; rintro e w9 ⟨rfl, j9, hw9⟩; have R9 := hide (show Rq w9 g M _ _ ⟨nx, l1, y⟩ by rw [hw9]; exact (unhide R4).drewN j9); have F9 := hide (show Fs (fq g ho) w (fq g _) w9 by rw [hw9]; exact (unhide F0).drewN j9); have V9 := hide (show Vars w9 from (unhide HV) _ _ (unhide F9)); clear hw9)
      | (go_at_call 28; refine (qPart_any w9 (unhide R9) (unhide V9) (unhide HQN) (unhide HQT)).mono ?_; rw [unhide HQF]; rintro e wp ⟨pa, pn, pcc, rfl, hbp, hop, hbelow⟩; have P1 := hide hbp; have P2 := hide hop; have rp := (unhide R9).later hbelow; have y2 := rp.c2; have yf2 := rp.free 2; have y1' := rp.cleared; have y1 := y1'.c1; have yf1 := y1'.free 1; simp only at y1; have RP := hide rp; have FP := hide ((unhide F9).trans (Fs.of (S' := fq g _) hbelow (fun k q => .inl q))); have BP := hide hbelow; clear hbp hop rp y1' hbelow))
    all_goals go_ret2
    all_goals exact part_out (unhide R9) (unhide F9) (unhide BP) (unhide P1) (unhide P2) (unhide RP) (by omega) (by omega)
  · skip
    have b0 : ((l.length : Int) == 0) = false := by rw [beq_eq_false_iff_ne]; have : l.length ≠ 0 := fun q => h0 (List.eq_nil_of_length_eq_zero q); omega
    have RA := HR
    have FA := hide (Fs.refl (fq g ho) w)
    have BA := HB
    go_enter Tryz.func20, Tryz.ntmps20
    go_wp2_with (first
      | (at_make; refine wpList_mk rfl _ _ rfl _ _ _ 7 rfl rfl rfl (by omega) ?_; intro w1 hm1 hb1 hz1; obtain ⟨⟨k2, kf2⟩, ra, fa⟩ := made7 (unhide HR) hm1 hb1; have d2 := ra.c2; rw [List.length_nil] at d2; have RA := hide ra; have FA := hide fa; have BA := hide ((unhide HB).fs fa (unhide HA)); clear hm1 hb1 ra fa)
      | (at_builtin; refine wpList_appN rfl (.tmp 23) (.tmp 24) rfl 0 _ _ _ _ rfl (unhide RA).own _ _ _ _ rfl (unhide BA) (by omega) (Nat.zero_le _) 7 hK ?_; intro ob' cb wb mb fb; rw [unhide HL1] at mb; obtain ⟨⟨e2, ef2⟩, rc, fc⟩ := (unhide RA).reheld mb fb (by rw [unhide HL]; omega); (try rw [List.length_nil] at e2); have g2 := rc.c2; simp only at g2; rw [unhide HL] at g2; have RC := hide rc; have FC := hide ((unhide FA).trans fc); have hct := rc.own.bs.le; clear mb fb rc fc)
      | (go_at_call 27; refine (unhide hk _ _ _ (unhide RC)).mono ?_; rintro e w' ⟨rfl, j, hw'⟩; have RD := hide (show Rq w' g M ob' cb ⟨nx, l1, y⟩ by rw [hw']; exact (unhide RC).drewN j); have FD := hide (show Fs (fq g ho) w (fq g ob') w' by rw [hw']; exact (unhide FC).drewN j); clear hw'))
    have RDd := hide (unhide RD).drew
    obtain ⟨pb, po, hpo, hpc⟩ := (unhide RD).own.bs.at'.resolve_left (by simp only; rw [unhide HL]; omega)
    subst hpo
    have hlc := (unhide RD).own.bs
    simp only at hlc
    rw [unhide HL] at hlc
    have HLC := hide (show Bs w'.drew (some ⟨pb, po, none⟩) 7 cb l1 from hlc.later (below_drew _))
    have x2 : w'.cell? ⟨g, 2, none⟩ = some (.slice (some ⟨pb, po, none⟩) 7 cb) := by have := (unhide RD).c2; simp only at this; rw [unhide HL] at this; exact this
    have x2d : w'.drew.cell? ⟨g, 2, none⟩ = some (.slice (some ⟨pb, po, none⟩) 7 cb) := x2
    have gl := (unhide RD).lt
    have KC := hide (fun (w3 : World) (b3 : Below w'.drew.heap.size w'.drew w3) => (show w3.cell? ⟨g, 2, none⟩ = some (.slice (some ⟨pb, po, none⟩) 7 cb) from (b3.cell (p := ⟨g, 2, none⟩) gl).trans x2d))
    have cl := hide (show Calls Tryz.prog 26 #[.pointer (some ⟨g, 0, none⟩), .int .i64 0] w'.drew fun e w2 => e = .returned (.int .i64 (N : Int)) ∧ w2 = w'.drew by
      have := qLength_any w'.drew (unhide RDd) 0 (by simp only; rw [unhide HL]; omega) 0 rfl
      rw [List.drop_zero] at this
      rw [unhide HN]
      exact this)
    have hN7 : IntKind.i64.wrap (7 + (N : Int)) = ((7 + N : Nat) : Int) := by rw [IntKind.wrap_i64]; omega
    obtain ⟨Z, hZ⟩ : ∃ Z, w'.drew.heap.size = Z := ⟨_, rfl⟩
    obtain ⟨w3, hrun3, m3, b3⟩ := make_at w'.drew Z hZ (7 + (N : Int)) (7 + N) (by omega) (by omega)
    have M3 := hide m3
    have HZ := hide hZ
    clear m3 hZ
    clear hlc hpc g2 hct
    have x23 := unhide KC _ b3
    go_region_law (first
      | (refine step_call rfl 26 _ _ _ _ rfl (enters_of Tryz.func26 (by kernel_rfl) rfl) (.pointer (some ⟨g, 0, none⟩)) (.int .i64 0) (by simp [Act.eval, Act.put]) (by simp [Act.eval, Act.put]) _ (unhide cl) ?_)
      | (refine step_appF rfl (.tmp 43) (.tmp 47) rfl 0 (some ⟨Z, 0, none⟩) 0 (7 + N) [] (by simp [Act.eval, Act.put]) ((unhide M3).mono (Nat.zero_le _)) ⟨pb, po, none⟩ 7 cb l1 (by simp [Act.eval, Act.put]) ((unhide HLC).later b3) (by omega) (Nat.zero_le _) ?_; intro o4 c4 w4 m4 g4 s4; obtain ⟨⟨qq2, qqf⟩, r4, f4⟩ := realloc (unhide RDd) (unhide HZ) (unhide M3) b3 m4 g4 s4 (by rw [unhide HL]; omega); rw [unhide HL] at qq2; have R4 := hide r4; have F4 := hide f4; clear m4 g4 s4 r4 f4))
    all_goals have F0 := hide ((unhide FD).drew.trans (unhide F4))
    all_goals go_wp2_with (first
      | (go_at_call 19; refine (unhide hm _ _ _ (unhide R4)).mono ?_; rintro e w9 ⟨rfl, j9, hw9⟩; have R9 := hide (show Rq w9 g M _ _ ⟨nx, l1, y⟩ by rw [hw9]; exact (unhide R4).drewN j9); have F9 := hide (show Fs (fq g ho) w (fq g _) w9 by rw [hw9]; exact (unhide F0).drewN j9); have V9 := hide (show Vars w9 from (unhide HV) _ _ (unhide F9)); clear hw9)
      | (go_at_call 28; refine (qPart_any w9 (unhide R9) (unhide V9) (unhide HQN) (unhide HQT)).mono ?_; rw [unhide HQF]; rintro e wp ⟨pa, pn, pcc, rfl, hbp, hop, hbelow⟩; have P1 := hide hbp; have P2 := hide hop; have rp := (unhide R9).later hbelow; have y2 := rp.c2; have yf2 := rp.free 2; have y1' := rp.cleared; have y1 := y1'.c1; have yf1 := y1'.free 1; simp only at y1; have RP := hide rp; have FP := hide ((unhide F9).trans (Fs.of (S' := fq g _) hbelow (fun k q => .inl q))); have BP := hide hbelow; clear hbp hop rp y1' hbelow))
    all_goals go_ret2
    all_goals exact part_out (unhide R9) (unhide F9) (unhide BP) (unhide P1) (unhide P2) (unhide RP) (by omega) (by omega)

set_option maxHeartbeats 4000000 in
set_option maxRecDepth 20000 in
theorem step_empty_late (w : World) (h : Rq w g M ho hc ⟨nx, l, y⟩) (bo : Option Addr) (cn cc : Nat) (c : List Int) (hb : Bs w bo cn cc c) (hap : ∀ k, ob bo k → ¬ fq g ho k) (l1 : List Int) (hl1 : l ++ c = l1) (h7 : l1.length = 7) (he : qE M ⟨nx, l1, y⟩ = 0) (hql : l1.length = 7 + qN l1) (hqt : qT l1 ≤ 1000) (hfe : (qfr l1).2 ≠ 0) (hvs : ∀ w2 ho2, Fs (fq g ho) w (fq g ho2) w2 → Vars w2) :
    Calls Tryz.prog 20 #[.pointer (some ⟨g, 0, none⟩), .slice bo cn cc] w fun e w' => OutSt w g M ho (⟨nx, l1, y⟩, [], (qfr l1).2) e w' := by
  have hlen := hb.len
  have hble := hb.le
  have hbmx := hb.max
  have hlmx := h.ok.hl
  simp only at hlmx
  obtain ⟨K, hK⟩ : ∃ K, l.length + cn = K := ⟨_, rfl⟩
  have hKl : l1.length = K := by rw [← hl1, List.length_append]; omega
  have c2 := h.c2
  simp only at c2
  have n0 := h.ok.n0
  have n1 := h.ok.n1
  simp only at n0 n1
  have HR := hide h
  have HB := hide hb
  have HA := hide hap
  have HL := hide hKl
  have HL1 := hide hl1
  have h7' : K = 7 := by omega
  subst h7'
  have hk := hide (fun w' hoa hca (hr : Rq w' g M hoa hca ⟨nx, l1, y⟩) => qCheck_any w' hr (by simp only; omega))
  rw [he] at hk
  obtain ⟨N, hN⟩ : ∃ N, N = qN l1 := ⟨_, rfl⟩
  have hbl : Byt l1 := by rw [← hl1]; exact h.own.byt.app hb.byt
  have HN := hide (show (N : Int) = val l1 3 by rw [hN]; exact qN_int hbl)
  have hN1 : N ≤ 1000 := by have := (qN_le (M := M) (s := ⟨nx, l1, y⟩) hbl he).1; simp only at this; have := h.ok.m1; omega
  have HV := hide (fun w2 ho2 (f : Fs (fq g ho) w (fq g ho2) w2) => hvs w2 ho2 f)
  have HQN := hide (show (⟨nx, l1, y⟩ : QS).held.length = 7 + qN (⟨nx, l1, y⟩ : QS).held from hql)
  have HQT := hide (show qT (⟨nx, l1, y⟩ : QS).held ≤ 1000 from hqt)
  obtain ⟨F, hF⟩ : ∃ F, F = qfr l1 := ⟨_, rfl⟩
  rw [← hF] at hfe ⊢
  have HQF := hide (show qfr (⟨nx, l1, y⟩ : QS).held = F from hF.symm)
  obtain ⟨F1, F2⟩ := F
  simp only at hfe ⊢
  have hm := hide (fun w' hoa hca (hr : Rq w' g M hoa hca ⟨nx, l1, y⟩) => qMissing_any w' hr (fun q => by simp only; omega))
  have hq : (qM ⟨nx, l1, y⟩ : Int) = 0 := by unfold qM; simp only; rw [if_neg (by omega)]; omega
  rw [hq] at hm
  clear h hb hap h7 hlen hKl hl1 he hN hbl hq hF
  have bf : (F2 != 0) = true := by rw [bne_iff_ne]; exact hfe
  clear hfe
  by_cases h0 : l = []
  · skip
    subst h0
    rw [List.length_nil] at c2 hK
    go_enter Tryz.func20, Tryz.ntmps20
    go_wp2_with (first
      | (at_make; refine wpList_mk rfl _ _ rfl _ _ _ 7 rfl rfl rfl (by omega) ?_; intro w1 hm1 hb1 hz1; obtain ⟨⟨k2, kf2⟩, ra, fa⟩ := made7 (unhide HR) hm1 hb1; have d2 := ra.c2; rw [List.length_nil] at d2; have RA := hide ra; have FA := hide fa; have BA := hide ((unhide HB).fs fa (unhide HA)); clear hm1 hb1 ra fa)
      | (at_builtin; refine wpList_appN rfl (.tmp 23) (.tmp 24) rfl 0 _ _ _ _ rfl (unhide RA).own _ _ _ _ rfl (unhide BA) (by omega) (Nat.zero_le _) 7 hK ?_; intro ob' cb wb mb fb; rw [unhide HL1] at mb; obtain ⟨⟨e2, ef2⟩, rc, fc⟩ := (unhide RA).reheld mb fb (by rw [unhide HL]; omega); (try rw [List.length_nil] at e2); have g2 := rc.c2; simp only at g2; rw [unhide HL] at g2; have RC := hide rc; have FC := hide ((unhide FA).trans fc); have hct := rc.own.bs.le; clear mb fb rc fc)
      | (go_at_call 27; refine (unhide hk _ _ _ (unhide RC)).mono ?_; rintro e w' ⟨rfl, j, hw'⟩; have RD := hide (show Rq w' g M ob' cb ⟨nx, l1, y⟩ by rw [hw']; exact (unhide RC).drewN j); have FD := hide (show Fs (fq g ho) w (fq g ob') w' by rw [hw']; exact (unhide FC).drewN j); clear hw'))
    have RDd := hide (unhide RD).drew
    obtain ⟨pb, po, hpo, hpc⟩ := (unhide RD).own.bs.at'.resolve_left (by simp only; rw [unhide HL]; omega)
    subst hpo
    have hlc := (unhide RD).own.bs
    simp only at hlc
    rw [unhide HL] at hlc
    have HLC := hide (show Bs w'.drew (some ⟨pb, po, none⟩) 7 cb l1 from hlc.later (below_drew _))
    have x2 : w'.cell? ⟨g, 2, none⟩ = some (.slice (some ⟨pb, po, none⟩) 7 cb) := by have := (unhide RD).c2; simp only at this; rw [unhide HL] at this; exact this
    have x2d : w'.drew.cell? ⟨g, 2, none⟩ = some (.slice (some ⟨pb, po, none⟩) 7 cb) := x2
    have gl := (unhide RD).lt
    have KC := hide (fun (w3 : World) (b3 : Below w'.drew.heap.size w'.drew w3) => (show w3.cell? ⟨g, 2, none⟩ = some (.slice (some ⟨pb, po, none⟩) 7 cb) from (b3.cell (p := ⟨g, 2, none⟩) gl).trans x2d))
    have cl := hide (show Calls Tryz.prog 26 #[.pointer (some ⟨g, 0, none⟩), .int .i64 0] w'.drew fun e w2 => e = .returned (.int .i64 (N : Int)) ∧ w2 = w'.drew by
      have := qLength_any w'.drew (unhide RDd) 0 (by simp only; rw [unhide HL]; omega) 0 rfl
      rw [List.drop_zero] at this
      rw [unhide HN]
      exact this)
    have hN7 : IntKind.i64.wrap (7 + (N : Int)) = ((7 + N : Nat) : Int) := by rw [IntKind.wrap_i64]; omega
    obtain ⟨Z, hZ⟩ : ∃ Z, w'.drew.heap.size = Z := ⟨_, rfl⟩
    obtain ⟨w3, hrun3, m3, b3⟩ := make_at w'.drew Z hZ (7 + (N : Int)) (7 + N) (by omega) (by omega)
    have M3 := hide m3
    have HZ := hide hZ
    clear m3 hZ
    clear hlc hpc g2 hct
    have x23 := unhide KC _ b3
    go_region_law (first
      | (refine step_call rfl 26 _ _ _ _ rfl (enters_of Tryz.func26 (by kernel_rfl) rfl) (.pointer (some ⟨g, 0, none⟩)) (.int .i64 0) (by simp [Act.eval, Act.put]) (by simp [Act.eval, Act.put]) _ (unhide cl) ?_)
      | (refine step_appF rfl (.tmp 43) (.tmp 47) rfl 0 (some ⟨Z, 0, none⟩) 0 (7 + N) [] (by simp [Act.eval, Act.put]) ((unhide M3).mono (Nat.zero_le _)) ⟨pb, po, none⟩ 7 cb l1 (by simp [Act.eval, Act.put]) ((unhide HLC).later b3) (by omega) (Nat.zero_le _) ?_; intro o4 c4 w4 m4 g4 s4; obtain ⟨⟨qq2, qqf⟩, r4, f4⟩ := realloc (unhide RDd) (unhide HZ) (unhide M3) b3 m4 g4 s4 (by rw [unhide HL]; omega); rw [unhide HL] at qq2; have R4 := hide r4; have F4 := hide f4; clear m4 g4 s4 r4 f4))
    all_goals have F0 := hide ((unhide FD).drew.trans (unhide F4))
    all_goals go_wp2_with (first
      | (go_at_call 19; refine (unhide hm _ _ _ (unhide R4)).mono ?_; rintro e w9 ⟨rfl, j9, hw9⟩; have R9 := hide (show Rq w9 g M _ _ ⟨nx, l1, y⟩ by rw [hw9]; exact (unhide R4).drewN j9); have F9 := hide (show Fs (fq g ho) w (fq g _) w9 by rw [hw9]; exact (unhide F0).drewN j9); have V9 := hide (show Vars w9 from (unhide HV) _ _ (unhide F9)); clear hw9)
      | (go_at_call 28; refine (qPart_any w9 (unhide R9) (unhide V9) (unhide HQN) (unhide HQT)).mono ?_; rw [unhide HQF]; rintro e wp ⟨pa, pn, pcc, rfl, hbp, hop, hbelow⟩; have P1 := hide hbp; have P2 := hide hop; have rp := (unhide R9).later hbelow; have y2 := rp.c2; have yf2 := rp.free 2; have y1' := rp.cleared; have y1 := y1'.c1; have yf1 := y1'.free 1; simp only at y1; have RP := hide rp; have FP := hide ((unhide F9).trans (Fs.of (S' := fq g _) hbelow (fun k q => .inl q))); have BP := hide hbelow; clear hbp hop rp y1' hbelow))
    all_goals go_ret2
    all_goals exact OutSt.none (unhide RP) (unhide FP)
  · skip
    have b0 : ((l.length : Int) == 0) = false := by rw [beq_eq_false_iff_ne]; have : l.length ≠ 0 := fun q => h0 (List.eq_nil_of_length_eq_zero q); omega
    have RA := HR
    have FA := hide (Fs.refl (fq g ho) w)
    have BA := HB
    go_enter Tryz.func20, Tryz.ntmps20
    go_wp2_with (first
      | (at_make; refine wpList_mk rfl _ _ rfl _ _ _ 7 rfl rfl rfl (by omega) ?_; intro w1 hm1 hb1 hz1; obtain ⟨⟨k2, kf2⟩, ra, fa⟩ := made7 (unhide HR) hm1 hb1; have d2 := ra.c2; rw [List.length_nil] at d2; have RA := hide ra; have FA := hide fa; have BA := hide ((unhide HB).fs fa (unhide HA)); clear hm1 hb1 ra fa)
      | (at_builtin; refine wpList_appN rfl (.tmp 23) (.tmp 24) rfl 0 _ _ _ _ rfl (unhide RA).own _ _ _ _ rfl (unhide BA) (by omega) (Nat.zero_le _) 7 hK ?_; intro ob' cb wb mb fb; rw [unhide HL1] at mb; obtain ⟨⟨e2, ef2⟩, rc, fc⟩ := (unhide RA).reheld mb fb (by rw [unhide HL]; omega); (try rw [List.length_nil] at e2); have g2 := rc.c2; simp only at g2; rw [unhide HL] at g2; have RC := hide rc; have FC := hide ((unhide FA).trans fc); have hct := rc.own.bs.le; clear mb fb rc fc)
      | (go_at_call 27; refine (unhide hk _ _ _ (unhide RC)).mono ?_; rintro e w' ⟨rfl, j, hw'⟩; have RD := hide (show Rq w' g M ob' cb ⟨nx, l1, y⟩ by rw [hw']; exact (unhide RC).drewN j); have FD := hide (show Fs (fq g ho) w (fq g ob') w' by rw [hw']; exact (unhide FC).drewN j); clear hw'))
    have RDd := hide (unhide RD).drew
    obtain ⟨pb, po, hpo, hpc⟩ := (unhide RD).own.bs.at'.resolve_left (by simp only; rw [unhide HL]; omega)
    subst hpo
    have hlc := (unhide RD).own.bs
    simp only at hlc
    rw [unhide HL] at hlc
    have HLC := hide (show Bs w'.drew (some ⟨pb, po, none⟩) 7 cb l1 from hlc.later (below_drew _))
    have x2 : w'.cell? ⟨g, 2, none⟩ = some (.slice (some ⟨pb, po, none⟩) 7 cb) := by have := (unhide RD).c2; simp only at this; rw [unhide HL] at this; exact this
    have x2d : w'.drew.cell? ⟨g, 2, none⟩ = some (.slice (some ⟨pb, po, none⟩) 7 cb) := x2
    have gl := (unhide RD).lt
    have KC := hide (fun (w3 : World) (b3 : Below w'.drew.heap.size w'.drew w3) => (show w3.cell? ⟨g, 2, none⟩ = some (.slice (some ⟨pb, po, none⟩) 7 cb) from (b3.cell (p := ⟨g, 2, none⟩) gl).trans x2d))
    have cl := hide (show Calls Tryz.prog 26 #[.pointer (some ⟨g, 0, none⟩), .int .i64 0] w'.drew fun e w2 => e = .returned (.int .i64 (N : Int)) ∧ w2 = w'.drew by
      have := qLength_any w'.drew (unhide RDd) 0 (by simp only; rw [unhide HL]; omega) 0 rfl
      rw [List.drop_zero] at this
      rw [unhide HN]
      exact this)
    have hN7 : IntKind.i64.wrap (7 + (N : Int)) = ((7 + N : Nat) : Int) := by rw [IntKind.wrap_i64]; omega
    obtain ⟨Z, hZ⟩ : ∃ Z, w'.drew.heap.size = Z := ⟨_, rfl⟩
    obtain ⟨w3, hrun3, m3, b3⟩ := make_at w'.drew Z hZ (7 + (N : Int)) (7 + N) (by omega) (by omega)
    have M3 := hide m3
    have HZ := hide hZ
    clear m3 hZ
    clear hlc hpc g2 hct
    have x23 := unhide KC _ b3
    go_region_law (first
      | (refine step_call rfl 26 _ _ _ _ rfl (enters_of Tryz.func26 (by kernel_rfl) rfl) (.pointer (some ⟨g, 0, none⟩)) (.int .i64 0) (by simp [Act.eval, Act.put]) (by simp [Act.eval, Act.put]) _ (unhide cl) ?_)
      | (refine step_appF rfl (.tmp 43) (.tmp 47) rfl 0 (some ⟨Z, 0, none⟩) 0 (7 + N) [] (by simp [Act.eval, Act.put]) ((unhide M3).mono (Nat.zero_le _)) ⟨pb, po, none⟩ 7 cb l1 (by simp [Act.eval, Act.put]) ((unhide HLC).later b3) (by omega) (Nat.zero_le _) ?_; intro o4 c4 w4 m4 g4 s4; obtain ⟨⟨qq2, qqf⟩, r4, f4⟩ := realloc (unhide RDd) (unhide HZ) (unhide M3) b3 m4 g4 s4 (by rw [unhide HL]; omega); rw [unhide HL] at qq2; have R4 := hide r4; have F4 := hide f4; clear m4 g4 s4 r4 f4))
    all_goals have F0 := hide ((unhide FD).drew.trans (unhide F4))
    all_goals go_wp2_with (first
      | (go_at_call 19; refine (unhide hm _ _ _ (unhide R4)).mono ?_; rintro e w9 ⟨rfl, j9, hw9⟩; have R9 := hide (show Rq w9 g M _ _ ⟨nx, l1, y⟩ by rw [hw9]; exact (unhide R4).drewN j9); have F9 := hide (show Fs (fq g ho) w (fq g _) w9 by rw [hw9]; exact (unhide F0).drewN j9); have V9 := hide (show Vars w9 from (unhide HV) _ _ (unhide F9)); clear hw9)
      | (go_at_call 28; refine (qPart_any w9 (unhide R9) (unhide V9) (unhide HQN) (unhide HQT)).mono ?_; rw [unhide HQF]; rintro e wp ⟨pa, pn, pcc, rfl, hbp, hop, hbelow⟩; have P1 := hide hbp; have P2 := hide hop; have rp := (unhide R9).later hbelow; have y2 := rp.c2; have yf2 := rp.free 2; have y1' := rp.cleared; have y1 := y1'.c1; have yf1 := y1'.free 1; simp only at y1; have RP := hide rp; have FP := hide ((unhide F9).trans (Fs.of (S' := fq g _) hbelow (fun k q => .inl q))); have BP := hide hbelow; clear hbp hop rp y1' hbelow))
    all_goals go_ret2
    all_goals exact OutSt.none (unhide RP) (unhide FP)

set_option maxHeartbeats 4000000 in
set_option maxRecDepth 20000 in
theorem step_more (w : World) (h : Rq w g M ho hc ⟨nx, l, y⟩) (bo : Option Addr) (cn cc : Nat) (c : List Int) (hb : Bs w bo cn cc c) (hap : ∀ k, ob bo k → ¬ fq g ho k) (l1 : List Int) (hl1 : l ++ c = l1) (hl7 : 7 ≤ l.length) (hcn : 1 ≤ cn) (h1b : l1.length ≤ 1007) (hn : l1.length < 7 + qN l1) :
    Calls Tryz.prog 20 #[.pointer (some ⟨g, 0, none⟩), .slice bo cn cc] w fun e w' => OutSt w g M ho (⟨nx, l1, y⟩, [], 0) e w' := by
  have hlen := hb.len
  have hble := hb.le
  have hbmx := hb.max
  have hlmx := h.ok.hl
  simp only at hlmx
  obtain ⟨K, hK⟩ : ∃ K, l.length + cn = K := ⟨_, rfl⟩
  have hKl : l1.length = K := by rw [← hl1, List.length_append]; omega
  have c2 := h.c2
  simp only at c2
  have n0 := h.ok.n0
  have n1 := h.ok.n1
  simp only at n0 n1
  have HR := hide h
  have HB := hide hb
  have HA := hide hap
  have HL := hide hKl
  have HL1 := hide hl1
  have h7' : 7 < K := by omega
  have b7 : ((K : Int) == 7) = false := by rw [beq_eq_false_iff_ne]; omega
  have hm := hide (fun w' hoa hca (hr : Rq w' g M hoa hca ⟨nx, l1, y⟩) => qMissing_any w' hr (fun q => by simp only; omega))
  have hq : 0 < (qM ⟨nx, l1, y⟩ : Int) := by unfold qM; simp only; rw [if_neg (by omega)]; omega
  generalize (qM ⟨nx, l1, y⟩ : Int) = Q at *
  have h0 : ¬ l = [] := fun q => by rw [q] at hl7; simp at hl7
  have hK2 : K ≤ 1007 := by omega
  clear h hb hap hlen hKl hl1 hn h1b
  have b0 : ((l.length : Int) == 0) = false := by rw [beq_eq_false_iff_ne]; have : l.length ≠ 0 := fun q => h0 (List.eq_nil_of_length_eq_zero q); omega
  have RA := HR
  have FA := hide (Fs.refl (fq g ho) w)
  have BA := HB
  go_enter Tryz.func20, Tryz.ntmps20
  go_wp2_with (first
      | (at_builtin; refine wpList_appN rfl (.tmp 23) (.tmp 24) rfl 0 _ _ _ _ rfl (unhide RA).own _ _ _ _ rfl (unhide BA) (by omega) (Nat.zero_le _) K hK ?_; intro ob' cb wb mb fb; rw [unhide HL1] at mb; obtain ⟨⟨e2, ef2⟩, rc, fc⟩ := (unhide RA).reheld mb fb (by rw [unhide HL]; omega); (try rw [List.length_nil] at e2); have g2 := rc.c2; simp only at g2; rw [unhide HL] at g2; have RC := hide rc; have FC := hide ((unhide FA).trans fc); have hct := rc.own.bs.le; clear mb fb rc fc)
      | (go_at_call 19; refine (unhide hm _ _ _ (unhide RC)).mono ?_; rintro e w' ⟨rfl, j, rfl⟩; have RD := hide ((unhide RC).drewN j); have FD := hide ((unhide FC).drewN j)))
  go_ret2
  exact OutSt.none (unhide RD) (unhide FD)

set_option maxHeartbeats 4000000 in
set_option maxRecDepth 20000 in
theorem step_last_fine (w : World) (h : Rq w g M ho hc ⟨nx, l, y⟩) (bo : Option Addr) (cn cc : Nat) (c : List Int) (hb : Bs w bo cn cc c) (hap : ∀ k, ob bo k → ¬ fq g ho k) (l1 : List Int) (hl1 : l ++ c = l1) (hl7 : 7 ≤ l.length) (hcn : 1 ≤ cn) (h1b : l1.length ≤ 1007) (hql : l1.length = 7 + qN l1) (hqt : qT l1 ≤ 1000) (hfe : (qfr l1).2 = 0) (hvs : ∀ w2 ho2, Fs (fq g ho) w (fq g ho2) w2 → Vars w2) :
    Calls Tryz.prog 20 #[.pointer (some ⟨g, 0, none⟩), .slice bo cn cc] w fun e w' => OutSt w g M ho (⟨(nx + 1) % 256, [], y⟩, (qfr l1).1, 0) e w' := by
  have hlen := hb.len
  have hble := hb.le
  have hbmx := hb.max
  have hlmx := h.ok.hl
  simp only at hlmx
  obtain ⟨K, hK⟩ : ∃ K, l.length + cn = K := ⟨_, rfl⟩
  have hKl : l1.length = K := by rw [← hl1, List.length_append]; omega
  have c2 := h.c2
  simp only at c2
  have n0 := h.ok.n0
  have n1 := h.ok.n1
  simp only at n0 n1
  have HR := hide h
  have HB := hide hb
  have HA := hide hap
  have HL := hide hKl
  have HL1 := hide hl1
  have h7' : 7 < K := by omega
  have b7 : ((K : Int) == 7) = false := by rw [beq_eq_false_iff_ne]; omega
  have HV := hide (fun w2 ho2 (f : Fs (fq g ho) w (fq g ho2) w2) => hvs w2 ho2 f)
  have HQN := hide (show (⟨nx, l1, y⟩ : QS).held.length = 7 + qN (⟨nx, l1, y⟩ : QS).held from hql)
  have HQT := hide (show qT (⟨nx, l1, y⟩ : QS).held ≤ 1000 from hqt)
  obtain ⟨F, hF⟩ : ∃ F, F = qfr l1 := ⟨_, rfl⟩
  rw [← hF] at hfe ⊢
  have HQF := hide (show qfr (⟨nx, l1, y⟩ : QS).held = F from hF.symm)
  obtain ⟨F1, F2⟩ := F
  simp only at hfe ⊢
  have hm := hide (fun w' hoa hca (hr : Rq w' g M hoa hca ⟨nx, l1, y⟩) => qMissing_any w' hr (fun q => by simp only; omega))
  have hq : (qM ⟨nx, l1, y⟩ : Int) = 0 := by unfold qM; simp only; rw [if_neg (by omega)]; omega
  rw [hq] at hm
  have h0 : ¬ l = [] := fun q => by rw [q] at hl7; simp at hl7
  have hK2 : K ≤ 1007 := by omega
  clear h hb hap hlen hKl hl1 h1b hq hF
  subst hfe
  have b0 : ((l.length : Int) == 0) = false := by rw [beq_eq_false_iff_ne]; have : l.length ≠ 0 := fun q => h0 (List.eq_nil_of_length_eq_zero q); omega
  have RA := HR
  have FA := hide (Fs.refl (fq g ho) w)
  have BA := HB
  go_enter Tryz.func20, Tryz.ntmps20
  go_wp2_with (first
    | (at_builtin; refine wpList_appN rfl (.tmp 23) (.tmp 24) rfl 0 _ _ _ _ rfl (unhide RA).own _ _ _ _ rfl (unhide BA) (by omega) (Nat.zero_le _) K hK ?_; intro ob' cb wb mb fb; rw [unhide HL1] at mb; obtain ⟨⟨e2, ef2⟩, rc, fc⟩ := (unhide RA).reheld mb fb (by rw [unhide HL]; omega); (try rw [List.length_nil] at e2); have g2 := rc.c2; simp only at g2; rw [unhide HL] at g2; have RC := hide rc; have FC := hide ((unhide FA).trans fc); have hct := rc.own.bs.le; clear mb fb rc fc; have R4 := RC; have F0 := FC)
      | (go_at_call 19; refine (unhide hm _ _ _ (unhide R4)).mono ?_; rintro e w9 ⟨rfl, j9, hw9⟩; have R9 := hide (show Rq w9 g M _ _ ⟨nx, l1, y⟩ by rw [hw9]; exact (unhide R4).drewN j9); have F9 := hide (show Fs (fq g ho) w (fq g _) w9 by rw [hw9]; exact (unhide F0).drewN j9); have V9 := hide (show Vars w9 from (unhide HV) _ _ (unhide F9)); clear hw9)
      | (go_at_call 28; refine (qPart_any w9 (unhide R9) (unhide V9) (unhide HQN) (unhide HQT)).mono ?_; rw [unhide HQF]; rintro e wp ⟨pa, pn, pcc, rfl, hbp, hop, hbelow⟩; have P1 := hide hbp; have P2 := hide hop; have rp := (unhide R9).later hbelow; have y2 := rp.c2; have yf2 := rp.free 2; have y1' := rp.cleared; have y1 := y1'.c1; have yf1 := y1'.free 1; simp only at y1; have RP := hide rp; have FP := hide ((unhide F9).trans (Fs.of (S' := fq g _) hbelow (fun k q => .inl q))); have BP := hide hbelow; clear hbp hop rp y1' hbelow))
  all_goals go_ret2
  all_goals exact part_out (unhide R9) (unhide F9) (unhide BP) (unhide P1) (unhide P2) (unhide RP) (by omega) (by omega)

set_option maxHeartbeats 4000000 in
set_option maxRecDepth 20000 in
theorem step_last_late (w : World) (h : Rq w g M ho hc ⟨nx, l, y⟩) (bo : Option Addr) (cn cc : Nat) (c : List Int) (hb : Bs w bo cn cc c) (hap : ∀ k, ob bo k → ¬ fq g ho k) (l1 : List Int) (hl1 : l ++ c = l1) (hl7 : 7 ≤ l.length) (hcn : 1 ≤ cn) (h1b : l1.length ≤ 1007) (hql : l1.length = 7 + qN l1) (hqt : qT l1 ≤ 1000) (hfe : (qfr l1).2 ≠ 0) (hvs : ∀ w2 ho2, Fs (fq g ho) w (fq g ho2) w2 → Vars w2) :
    Calls Tryz.prog 20 #[.pointer (some ⟨g, 0, none⟩), .slice bo cn cc] w fun e w' => OutSt w g M ho (⟨nx, l1, y⟩, [], (qfr l1).2) e w' := by
  have hlen := hb.len
  have hble := hb.le
  have hbmx := hb.max
  have hlmx := h.ok.hl
  simp only at hlmx
  obtain ⟨K, hK⟩ : ∃ K, l.length + cn = K := ⟨_, rfl⟩
  have hKl : l1.length = K := by rw [← hl1, List.length_append]; omega
  have c2 := h.c2
  simp only at c2
  have n0 := h.ok.n0
  have n1 := h.ok.n1
  simp only at n0 n1
  have HR := hide h
  have HB := hide hb
  have HA := hide hap
  have HL := hide hKl
  have HL1 := hide hl1
  have h7' : 7 < K := by omega
  have b7 : ((K : Int) == 7) = false := by rw [beq_eq_false_iff_ne]; omega
  have HV := hide (fun w2 ho2 (f : Fs (fq g ho) w (fq g ho2) w2) => hvs w2 ho2 f)
  have HQN := hide (show (⟨nx, l1, y⟩ : QS).held.length = 7 + qN (⟨nx, l1, y⟩ : QS).held from hql)
  have HQT := hide (show qT (⟨nx, l1, y⟩ : QS).held ≤ 1000 from hqt)
  obtain ⟨F, hF⟩ : ∃ F, F = qfr l1 := ⟨_, rfl⟩
  rw [← hF] at hfe ⊢
  have HQF := hide (show qfr (⟨nx, l1, y⟩ : QS).held = F from hF.symm)
  obtain ⟨F1, F2⟩ := F
  simp only at hfe ⊢
  have hm := hide (fun w' hoa hca (hr : Rq w' g M hoa hca ⟨nx, l1, y⟩) => qMissing_any w' hr (fun q => by simp only; omega))
  have hq : (qM ⟨nx, l1, y⟩ : Int) = 0 := by unfold qM; simp only; rw [if_neg (by omega)]; omega
  rw [hq] at hm
  have h0 : ¬ l = [] := fun q => by rw [q] at hl7; simp at hl7
  have hK2 : K ≤ 1007 := by omega
  clear h hb hap hlen hKl hl1 h1b hq hF
  have bf : (F2 != 0) = true := by rw [bne_iff_ne]; exact hfe
  clear hfe
  have b0 : ((l.length : Int) == 0) = false := by rw [beq_eq_false_iff_ne]; have : l.length ≠ 0 := fun q => h0 (List.eq_nil_of_length_eq_zero q); omega
  have RA := HR
  have FA := hide (Fs.refl (fq g ho) w)
  have BA := HB
  go_enter Tryz.func20, Tryz.ntmps20
  go_wp2_with (first
    | (at_builtin; refine wpList_appN rfl (.tmp 23) (.tmp 24) rfl 0 _ _ _ _ rfl (unhide RA).own _ _ _ _ rfl (unhide BA) (by omega) (Nat.zero_le _) K hK ?_; intro ob' cb wb mb fb; rw [unhide HL1] at mb; obtain ⟨⟨e2, ef2⟩, rc, fc⟩ := (unhide RA).reheld mb fb (by rw [unhide HL]; omega); (try rw [List.length_nil] at e2); have g2 := rc.c2; simp only at g2; rw [unhide HL] at g2; have RC := hide rc; have FC := hide ((unhide FA).trans fc); have hct := rc.own.bs.le; clear mb fb rc fc; have R4 := RC; have F0 := FC)
      | (go_at_call 19; refine (unhide hm _ _ _ (unhide R4)).mono ?_; rintro e w9 ⟨rfl, j9, hw9⟩; have R9 := hide (show Rq w9 g M _ _ ⟨nx, l1, y⟩ by rw [hw9]; exact (unhide R4).drewN j9); have F9 := hide (show Fs (fq g ho) w (fq g _) w9 by rw [hw9]; exact (unhide F0).drewN j9); have V9 := hide (show Vars w9 from (unhide HV) _ _ (unhide F9)); clear hw9)
      | (go_at_call 28; refine (qPart_any w9 (unhide R9) (unhide V9) (unhide HQN) (unhide HQT)).mono ?_; rw [unhide HQF]; rintro e wp ⟨pa, pn, pcc, rfl, hbp, hop, hbelow⟩; have P1 := hide hbp; have P2 := hide hop; have rp := (unhide R9).later hbelow; have y2 := rp.c2; have yf2 := rp.free 2; have y1' := rp.cleared; have y1 := y1'.c1; have yf1 := y1'.free 1; simp only at y1; have RP := hide rp; have FP := hide ((unhide F9).trans (Fs.of (S' := fq g _) hbelow (fun k q => .inl q))); have BP := hide hbelow; clear hbp hop rp y1' hbelow))
  all_goals go_ret2
  all_goals exact OutSt.none (unhide RP) (unhide FP)

end
end Go.Proofs.YtnoabdafmgmenaaGreatDoor
