/-
  'append' at a step of a region that draws its order, and which rows it leaves: those of another element type. Conditions: lengths below a bound that is far above every length the statements allow.
-/
import Derived.Test.YtkijdkbkbelliaaGpR
import Derived.Maps.AppendAt
import Derived.Deep.RegionHeld3
namespace Go.Proofs.Ytkijdkbkbelliaa
open Go.RowKit
set_option linter.unusedVariables false
set_option linter.unusedSimpArgs false

/-- Whatever holds no bytes is as it was. -/
def Kn (w w' : World) : Prop := ∀ (k : Nat) (cs : Array Value) (T : TypeId) (m : Nat × Nat), w.heap[k]? = some (.cells cs T m) → T ≠ 5 → w'.heap[k]? = some (.cells cs T m)
theorem Kn.of {w w' : World} (h : Below w.heap.size w w') : Kn w w' := fun k cs T m hk _ => (h.block k (Array.getElem?_eq_some_iff.1 hk).1).trans hk
theorem Kn.trans {a b c : World} (h : Kn a b) (k : Kn b c) : Kn a c := fun i cs T m hi hT => k i cs T m (h i cs T m hi hT) hT
theorem mine_row {B : Nat} {w : World} {ao : Option Addr} {n c : Nat} {bs : List Int} (h : Mine B w ao n c bs) {k : Nat} (hk : ob ao k) : ∃ cs m, w.heap[k]? = some (.cells cs 5 m) := by
  obtain ⟨a, rfl, rfl⟩ := hk
  rcases h.own.2 with ⟨hv, _⟩ | ⟨g, cap, cur, hv, hg, hh, _⟩
  · simp at hv
  · simp only [Value.slice.injEq, Option.some.injEq] at hv
    obtain ⟨rfl, _⟩ := hv
    exact ⟨_, _, hh⟩
theorem Kn.grown {B : Nat} {w w1 : World} {ao : Option Addr} {n c : Nat} {bs : List Int} (h : Mine B w ao n c bs) (hg : w.grownBy w1 (Value.slice ao n c).ownBlock) : Kn w w1 := by
  intro k cs T m hk hT
  refine (grown_at hg (Array.getElem?_eq_some_iff.1 hk).1 fun q => ?_).trans hk
  obtain ⟨cs', m', h2⟩ := mine_row h q
  rw [h2] at hk
  simp at hk
  exact hT hk.2.1.symm
theorem mine_grown {B : Nat} {w w1 : World} {ao : Option Addr} {n c : Nat} {bs : List Int} (h : Mine B w ao n c bs) (hB : B ≤ w.heap.size) (hg : w.grownBy w1 (Value.slice ao n c).ownBlock) : Below B w w1 :=
  (Below.refl B w).grown hg hB (fun k hk => (h.own.lt k hk).1)
/-- 'append(out, xs...)' at a step of a region that draws its order. -/
theorem step_appK {ops : Array Oper} {o : Oper} {a : Act} {w : World} {K : Act → World → Prop} {Q : Exit → Act → World → Prop} {G : Prop} (hgd : o.guard = none) (s x : Operand)
    (ho : o.op = .call { callee := .builtin .append, args := #[s, x], argTypes := #[22, 22] })
    (B : Nat) (ao : Option Addr) (n c : Nat) (bs : List Int) (hs : a.eval s = .slice ao n c) (hm : Mine B w ao n c bs)
    (ao' : Option Addr) (m c' : Nat) (cs : List Int) (hx : a.eval x = .slice ao' m c') (hb : Bs w ao' m c' cs) (hbound : n + m ≤ 140737488355328) (hB : B ≤ w.heap.size)
    (h : ∀ ao1 c1 w1, Mine B w1 ao1 (n + m) c1 (bs ++ cs) → w.grownBy w1 (Value.slice ao n c).ownBlock → K (a.put o.dst (.slice ao1 (n + m) c1)) w1) :
    if Region.wanted o (yielded ops a.tmps) = true then Oper.wp Try.prog o a w K Q else G := by
  have hw : Region.wanted o (yielded ops a.tmps) = true := by simp [Region.wanted, hgd]
  rw [if_pos hw]
  obtain ⟨i0, hi, hz0, hz1, hz2⟩ := info_parts Try.infoByte
  have hlen := hm.len
  have hlen' := hb.len
  cases ao' with
  | none =>
    have hc' := hb.nil rfl
    have hm0 : m = 0 := by have := hb.le; omega
    subst hm0
    subst hc'
    have hcs : cs = [] := List.eq_nil_of_length_eq_zero hlen'
    subst hcs
    have hr := run_append_owned_none (P := Try.prog) (w := w) B 22 o.type 5 i0 1 Try.underlying22 hi _ _ _ hm.own
    unfold Oper.wp
    simp [execOp, ho, resolve, invoke, builtin, hs, hx, hr, Result.andThen]
    exact h ao c w (by simpa using hm) ⟨rfl, rfl, rfl, Nat.le_refl _, fun _ _ _ => rfl⟩
  | some ad =>
    obtain ⟨v', w', hr, hown, hgrow, _, hsrc⟩ := run_append_own_at (P := Try.prog) w B 22 o.type 5 i0 (.int .u8 0) 1 1 Try.underlying22 hi hz0 hz1 hz2 rfl (by decide) _ _ _ hm.own ad m c' (cs.map (Value.int .u8)) (by simp [hlen']) hb.news (ints_oneCell _ _) (by unfold maxLen; omega) (by omega) hB
    rw [← List.map_append] at hown
    have hex : ∃ ao1 c1, v' = .slice ao1 (n + m) c1 := by
      rcases hown.2 with ⟨hv, h0⟩ | ⟨g, cap, cur, hv, _⟩
      · exact ⟨.none, 0, by rw [hv, h0]⟩
      · exact ⟨_, _, hv⟩
    obtain ⟨ao1, c1, hv⟩ := hex
    subst hv
    unfold Oper.wp execOp
    simp only [ho, resolve, invoke, builtin, Sem.run_bind, Sem.run_pure, Result.andThen_ok, List.map_toArray, List.map_cons, List.map_nil, hs, hx, hr]
    exact h ao1 c1 w' ⟨by simp [hlen, hlen'], hown, hm.byt.app hb.byt⟩ hgrow

theorem mine_row0 {B : Nat} {w : World} {g : Nat} (h : w.heap[g]? = some (.cells #[] 5 (0, 0))) (hg : B ≤ g) : Mine B w (some ⟨g, 0, none⟩) 0 0 [] :=
  ⟨rfl, ⟨rfl, .inr ⟨g, 0, #[], rfl, hg, h, Nat.le_refl _, by unfold maxLen; omega, rfl, rfl⟩⟩, Byt.nil⟩
theorem bs_row1 {w : World} {g : Nat} {k : Int} (h : w.heap[g]? = some (.cells #[.int .u8 k] 5 (0, 0))) (h0 : 0 ≤ k) (h1 : k ≤ 255) : Bs w (some ⟨g, 0, none⟩) 1 1 [k] :=
  ⟨rfl, Nat.le_refl _, by omega, (fun e => by cases e), Byt.one h0 h1, .inr ⟨g, 0, rfl, fun i hi => by
    have : i = 0 := by omega
    subst this
    rw [cell_of_row w g _ _ _ _ h]
    rfl⟩⟩


theorem push_new (a : Array Obj) (o : Obj) (i : Nat) (h : i = a.size) : (a.push o)[i]? = some o := by subst h; simp
theorem push_old {a : Array Obj} {i : Nat} {x : Option Obj} (o : Obj) (h : i < a.size) (k : a[i]? = x) : (a.push o)[i]? = x := by
  rw [Array.getElem?_push, if_neg (by omega)]
  exact k
theorem row_after (w : World) (o p : Obj) : ((w.alloc o).alloc p).heap[w.heap.size + 1]? = some p := push_new (w.heap.push o) p _ (by simp)

end Go.Proofs.Ytkijdkbkbelliaa
