/-
  Proved: GreetBack of layer 12 returns true for every greeting, answer, switch and change of user, with any capabilities, any cut and any byte: what AppendGreeting, AppendAnswer, AppendSwitch and AppendChange write is read back by the Read of the same name as it was; each shorter part of it is ErrShort, with a byte more it is ErrBad; what came in reads as it did. Conditions: what comes in is of bulk at most 1,048,576 (the statement's second form; the statement itself lets more than 4,000 bytes, or more than 100 attributes, pass).
-/
import Derived.Test.YtkijdkbkbelliaaRows
import Derived.Test.YtkijdkbkbelliaaLawGrBack
import Derived.Test.YtkijdkbkbelliaaPkArg
import Derived.WalkKit
import Derived.ProofKit
import Derived.OpenShut
import Derived.ShutString
import Derived.ChangeOld
import Derived.Below
import Derived.JoinedCond
namespace Go.Proofs.Ytkijdkbkbelliaa.greetBack
open Go.ChangeShapes Go.WideShapes Go.ChangeAt Go.RowKit
set_option linter.unusedVariables false

theorem own : ownKnob Try.prog.godebug = none := by kernel_rfl
theorem laidOut : laidOutB Try.prog = true := by kernel_rfl

theorem walk (go : Option Addr) (gn gc : Nat) (G : Gr) (ro : Option Addr) (rn rc : Nat) (tt : Option Addr) (tn tc : Nat) (A : An) (so : Option Addr) (sn sc : Nat) (S : Sw) (uo : Option Addr) (un uc : Nat) (vo : Option Addr) (vn vc : Nat) (U : Cu) (C : Int) (a1 : Int) (a2 : Int) (w : World) (w0 : (Bs w go gn gc G.no ∧ Bs w ro rn rc A.re ∧ As w tt tn tc A.at' ∧ Bs w so sn sc S.no ∧ Bs w uo un uc U.re ∧ As w vo vn vc U.at' ∧ GrK G ∧ AnK A ∧ CuK U) ∧ G.ve.size + gn + G.pl.size + A.us.size + rn + A.sc.size + A.pl.size + S.pl.size + sn + U.us.size + un + U.sc.size + U.pl.size + (aB A.at').length + (aB U.at').length ≤ 549755813888) (w1 : (Lit.int .i64 a1).wf = true) (w2 : (Lit.int .u8 a2).wf = true) :
    Calls Try.prog 8 #[.agg #[.string G.ve, .int .u32 G.th, .slice go gn gc, .int .u32 G.ca, .int .u8 G.ch, .int .u16 G.st, .string G.pl, .int .u32 A.ca, .int .u32 A.mo, .int .u8 A.ch, .string A.us, .slice ro rn rc, .string A.sc, .string A.pl, .slice tt tn tc, .string S.pl, .slice so sn sc, .string U.us, .slice uo un uc, .string U.sc, .int .u16 U.ch, .string U.pl, .slice vo vn vc, .int .u32 C], .int .i64 a1, .int .u8 a2] w fun e w' => e = .returned (.bool true) ∧ Below w.heap.size w w' := by
  obtain ⟨⟨hG, hA, hT, hS, hU, hV, kG, kA, kU⟩, hz⟩ := w0
  have q := bounds_u8 w2
  exact lawGrBack go gn gc G ro rn rc tt tn tc A so sn sc S uo un uc vo vn vc U C a1 a2 w hG hA hT hS hU hV kG kA kU (by omega) (by omega) hz

set_option maxRecDepth 100000 in
theorem lifted (os : Os) (started : os.Started) (H : Type) (enc : TypeId × Value → H) (F : Stop.Interp) :
    ReturnsInHanded {} Try.checked os 8 .any ((Rows.OpenSpec.upto Rows.greetBackSpec).pre6 enc Try.prog Try.f8 Rows.greetBackUptoRow.domain false) (((Rows.OpenSpec.upto Rows.greetBackSpec).at F).post enc Try.prog Try.f8 false true false false) := by
  refine returnsInHanded_of_cond (C := Try.checked) (s := Rows.OpenSpec.upto Rows.greetBackSpec) (k := Rows.uptoSmall) rfl own started (by kernel_rfl) Try.func8
    (OpenSpec.witness (enc := enc) (C := Try.checked) (s := Rows.OpenSpec.upto Rows.greetBackSpec) (k := Rows.uptoSmall) rfl false ⟨#[], #[.agg #[.string ⟨#[]⟩, .int .u32 0, .slice none 0 0, .int .u32 0, .int .u8 0, .int .u16 0, .string ⟨#[]⟩, .int .u32 0, .int .u32 0, .int .u8 0, .string ⟨#[]⟩, .slice none 0 0, .string ⟨#[]⟩, .string ⟨#[]⟩, .slice none 0 0, .string ⟨#[]⟩, .slice none 0 0, .string ⟨#[]⟩, .slice none 0 0, .string ⟨#[]⟩, .int .u16 0, .string ⟨#[]⟩, .slice none 0 0, .int .u32 0], .int .i64 0, .int .u8 0], []⟩ 8 (by kernel_rfl) (by kernel_rfl) (by kernel_rfl)
      (x := ([.agg [.agg [.lit (.string []), .lit (.int .u32 0), .nil, .lit (.int .u32 0), .lit (.int .u8 0), .lit (.int .u16 0), .lit (.string [])], .agg [.lit (.int .u32 0), .lit (.int .u32 0), .lit (.int .u8 0), .lit (.string []), .nil, .lit (.string []), .lit (.string []), .nil], .agg [.lit (.string []), .nil], .agg [.lit (.string []), .nil, .lit (.string []), .lit (.int .u16 0), .lit (.string []), .nil], .lit (.int .u32 0)], .lit (.int .i64 0), .lit (.int .u8 0)], [], [])) (by kernel_rfl) rfl (by kernel_rfl)) ?_
  intro W base args ds gs before hval0 hW _ hk _
  have hval : ∀ (j : Nat) t v, Try.f8.params[j]? = some t → args[j]? = some v → Value.okWide Try.prog W .any base t v := hval0
  have hW' := hW
  obtain ⟨p, q, hA0, hV, rfl, hfz, hnd⟩ := hW
  have hA : DataW.TrodAll enc Try.prog W 0 (fun _ => true) true Try.f8.params.toList args.toList ds p := hA0
  rw [Try.params8] at hA hval
  obtain ⟨v0, vs0, d0, ds0, p0, q0, hargs, rfl, rfl, h0, r0⟩ := trodAll_cons hA
  obtain ⟨v1, vs1, d1, ds1, p1, q1, rfl, rfl, rfl, h1, r1⟩ := trodAll_cons r0
  obtain ⟨v2, vs2, d2, ds2, p2, q2, rfl, rfl, rfl, h2, r2⟩ := trodAll_cons r1
  obtain ⟨rfl, rfl, rfl⟩ := trodAll_nil r2
  obtain rfl : args = #[v0, v1, v2] := by cases args; simp_all
  obtain ⟨rfl, rfl⟩ := trodVars_none hV
  obtain ⟨c0, rfl, hsz0⟩ := okWide_struct Try.underlying73 (hval 0 73 v0 rfl rfl)
  have k0 := h0
  have lt0 : ∀ x ∈ p0, x.block < W.heap.size := by obtain ⟨m, hm⟩ := k0; exact DataW.trod_lt m _ _ _ hm
  obtain ⟨go, gn, gc, G, ro, rn, rc, tt, tn, tc, A, so, sn, sc, S, uo, un, uc, vo, vn, vc, U, C, rfl, m1_, m2_, m3_, m4_, m5_, m6_, m7_, m8_, m9_, hs0⟩ : ∃ (go : Option Addr) (gn gc : Nat) (G : Gr) (ro : Option Addr) (rn rc : Nat) (tt : Option Addr) (tn tc : Nat) (A : An) (so : Option Addr) (sn sc : Nat) (S : Sw) (uo : Option Addr) (un uc : Nat) (vo : Option Addr) (vn vc : Nat) (U : Cu) (C : Int), c0 = #[.string G.ve, .int .u32 G.th, .slice go gn gc, .int .u32 G.ca, .int .u8 G.ch, .int .u16 G.st, .string G.pl, .int .u32 A.ca, .int .u32 A.mo, .int .u8 A.ch, .string A.us, .slice ro rn rc, .string A.sc, .string A.pl, .slice tt tn tc, .string S.pl, .slice so sn sc, .string U.us, .slice uo un uc, .string U.sc, .int .u16 U.ch, .string U.pl, .slice vo vn vc, .int .u32 C] ∧ Bs W go gn gc G.no ∧ Bs W ro rn rc A.re ∧ As W tt tn tc A.at' ∧ Bs W so sn sc S.no ∧ Bs W uo un uc U.re ∧ As W vo vn vc U.at' ∧ GrK G ∧ AnK A ∧ CuK U ∧ G.ve.size + gn + G.pl.size + A.us.size + rn + A.sc.size + A.pl.size + S.pl.size + sn + U.us.size + un + U.sc.size + U.pl.size + (aB A.at').length + (aB U.at').length ≤ 80 * Rows.uptoBulk d0 := by
    obtain ⟨fuel, hf⟩ := h0
    exact pk_of hsz0 hf
  have hb0 : Rows.uptoBulkAll [d0, d1, d2] ≤ 1048576 := of_decide_eq_true hk
  simp only [Rows.uptoBulkAll] at hb0
  have w0 : (Bs W go gn gc G.no ∧ Bs W ro rn rc A.re ∧ As W tt tn tc A.at' ∧ Bs W so sn sc S.no ∧ Bs W uo un uc U.re ∧ As W vo vn vc U.at' ∧ GrK G ∧ AnK A ∧ CuK U) ∧ G.ve.size + gn + G.pl.size + A.us.size + rn + A.sc.size + A.pl.size + S.pl.size + sn + U.us.size + un + U.sc.size + U.pl.size + (aB A.at').length + (aB U.at').length ≤ 549755813888 := ⟨⟨m1_, m2_, m3_, m4_, m5_, m6_, m7_, m8_, m9_⟩, by omega⟩
  obtain ⟨a1, rfl, rfl, rfl, w1⟩ := open_int Try.underlying3 (hval 1 3 v1 rfl rfl) h1
  obtain ⟨a2, rfl, rfl, rfl, w2⟩ := open_int Try.underlying5 (hval 2 5 v2 rfl rfl) h2
  clear hA0 hval0
  refine (walk go gn gc G ro rn rc tt tn tc A so sn sc S uo un uc vo vn vc U C a1 a2 W w0 w1 w2).mono fun e W' ⟨he, bel⟩ => ?_
  subst he
  exact ⟨_, rfl, _, _, _, [], _, [], hW', trodAll_mk1 (shut_bool Try.underlying4 _), (trodAll_cons_mk (Below.trod laidOut (by kernel_rfl) (of_decide_eq_true (by kernel_rfl)) k0 bel lt0) (trodAll_cons_mk (shut_int Try.underlying3 w1) (trodAll_cons_mk (shut_int Try.underlying5 w2) trodAll_mk0))), rfl, bel.frame _, fun h => by cases h⟩

theorem over : Rows.greetBackUptoRow.holds Try.pinned (Rows.OpenSpec.upto Rows.greetBackSpec) :=
  OpenClaim.holds_of_cond 8 Try.f8 rfl rfl rfl rfl rfl rfl rfl ⟨rfl, rfl, rfl, rfl, rfl⟩ rfl rfl rfl rfl rfl (by kernel_rfl) Try.func8 (by kernel_rfl)
    (of_decide_eq_true (by kernel_rfl)) (by unfold Func.isWrapper; first | (rw [if_pos (by decide +kernel)]; kernel_rfl) | (rw [if_neg (by decide +kernel)]; exact ⟨rfl, rfl⟩))
    (fun os started H enc _ F => lifted os started H enc F)

/-- ████ THE STATEMENT ████ -/
theorem proved : Rows.GreetBackUptoSaid := over
#print axioms proved
end Go.Proofs.Ytkijdkbkbelliaa.greetBack
