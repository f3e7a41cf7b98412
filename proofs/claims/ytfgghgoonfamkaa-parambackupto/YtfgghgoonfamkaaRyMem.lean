/-
  What the walks of the writers need of memory: which blocks an 'append' to bytes of the call's own leaves alone, 'append' and a call at a step of a region that draws its order. Conditions: lengths below a bound that is far above every length the statements allow.
-/
import Derived.Test.YtfgghgoonfamkaaMA
import Derived.Test.YtfgghgoonfamkaaMLe
import Derived.Lib.AppendStr
import Derived.Maps.AppendAt
import Derived.Laws.ResultCell
import Derived.Shelf.Abstract
namespace Go.Proofs.Ytfgghgoonfamkaa
open Go.RowKit Go.Shelf
set_option linter.unusedVariables false
set_option linter.unusedSimpArgs false

/-- Whatever holds no bytes is as it was. -/
def Kn (w w' : World) : Prop := ∀ (k : Nat) (cs : Array Value) (T : TypeId) (m : Nat × Nat), w.heap[k]? = some (.cells cs T m) → T ≠ 5 → w'.heap[k]? = some (.cells cs T m)
/-- .. but for block g. -/
def Kp (g : Nat) (w w' : World) : Prop := ∀ (k : Nat) (cs : Array Value) (T : TypeId) (m : Nat × Nat), w.heap[k]? = some (.cells cs T m) → T ≠ 5 → k ≠ g → w'.heap[k]? = some (.cells cs T m)
theorem Kp.refl (g : Nat) (w : World) : Kp g w w := fun _ _ _ _ h _ _ => h
theorem Kp.trans {g : Nat} {a b c : World} (h : Kp g a b) (k : Kp g b c) : Kp g a c := fun i cs T m hi hT hg => k i cs T m (h i cs T m hi hT hg) hT hg
theorem Kn.of {w w' : World} (h : Below w.heap.size w w') : Kn w w' := fun k cs T m hk _ => (h.block k (Array.getElem?_eq_some_iff.1 hk).1).trans hk
theorem Kn.trans {a b c : World} (h : Kn a b) (k : Kn b c) : Kn a c := fun i cs T m hi hT => k i cs T m (h i cs T m hi hT) hT
theorem Kn.kp {w w' : World} (h : Kn w w') (g : Nat) : Kp g w w' := fun k cs T m hk hT _ => h k cs T m hk hT
theorem Kp.of {g : Nat} {w w' : World} (h : Below w.heap.size w w') : Kp g w w' := (Kn.of h).kp g
theorem Kn.set {g : Nat} {w w' : World} (h : Kn w w') (i : Nat) (v : Value) : Kp g w (w'.setCell ⟨g, i, none⟩ v) := fun k cs T m hk hT hg => (heap_setCell_other w' ⟨g, i, none⟩ k v hg).trans (h k cs T m hk hT)
theorem mine_row {B : Nat} {w : World} {ao : Option Addr} {n c : Nat} {bs : List Int} (h : Mine B w ao n c bs) {k : Nat} (hk : ob ao k) : ∃ cs m, w.heap[k]? = some (.cells cs 5 m) := by
  obtain ⟨a, rfl, rfl⟩ := hk
  rcases h.own.2 with ⟨hv, _⟩ | ⟨g, cap, cur, hv, hg, hh, _⟩
  · simp at hv
  · simp only [Value.slice.injEq, Option.some.injEq] at hv
    obtain ⟨rfl, _⟩ := hv
    exact ⟨_, _, hh⟩
theorem Kn.grown {B : Nat} {w w1 : World} {ao : Option Addr} {n c : Nat} {bs : List Int} (h : Mine B w ao n c bs) (hg : w.grownBy w1 (Value.slice ao n c).ownBlock) : Kn w w1 := by
  intro k cs T m hk hT
  refine (grown_at hg (Array.getElem?_eq_some_iff.1 hk).1 fun q => ?_).trans hk
  obtain ⟨cs', m', h2⟩ := mine_row h q
  rw [h2] at hk
  simp at hk
  exact hT hk.2.1.symm
theorem Kn.fs {B : Nat} {w w1 : World} {ao ao1 : Option Addr} {n c : Nat} {bs : List Int} (h : Mine B w ao n c bs) (f : Fs (ob ao) w (ob ao1) w1) : Kn w w1 := by
  intro k cs T m hk hT
  refine (f.block k (Array.getElem?_eq_some_iff.1 hk).1 fun q => ?_).trans hk
  obtain ⟨cs', m', h2⟩ := mine_row h q
  rw [h2] at hk
  simp at hk
  exact hT hk.2.1.symm
theorem mine_grown {B : Nat} {w w1 : World} {ao : Option Addr} {n c : Nat} {bs : List Int} (h : Mine B w ao n c bs) (hB : B ≤ w.heap.size) (hg : w.grownBy w1 (Value.slice ao n c).ownBlock) : Below B w w1 :=
  (Below.refl B w).grown hg hB (fun k hk => (h.own.lt k hk).1)
/-- 'append(out, xs...)' at a step of a region that draws its order. -/
theorem step_appK {ops : Array Oper} {o : Oper} {a : Act} {w : World} {K : Act → World → Prop} {Q : Exit → Act → World → Prop} {G : Prop} (hgd : o.guard = none) (s x : Operand)
    (ho : o.op = .call { callee := .builtin .append, args := #[s, x], argTypes := #[22, 22] })
    (B : Nat) (ao : Option Addr) (n c : Nat) (bs : List Int) (hs : a.eval s = .slice ao n c) (hm : Mine B w ao n c bs)
    (ao' : Option Addr) (m c' : Nat) (cs : List Int) (hx : a.eval x = .slice ao' m c') (hb : Bs w ao' m c' cs) (hbound : n + m ≤ 140737488355328) (hB : B ≤ w.heap.size)
    (h : ∀ ao1 c1 w1, Mine B w1 ao1 (n + m) c1 (bs ++ cs) → w.grownBy w1 (Value.slice ao n c).ownBlock → K (a.put o.dst (.slice ao1 (n + m) c1)) w1) :
    if Region.wanted o (yielded ops a.tmps) = true then Oper.wp Try.prog o a w K Q else G := by
  have hw : Region.wanted o (yielded ops a.tmps) = true := by simp [Region.wanted, hgd]
  rw [if_pos hw]
  obtain ⟨i0, hi, hz0, hz1, hz2⟩ := info_parts Try.infoByte
  have hlen := hm.len
  have hlen' := hb.len
  cases ao' with
  | none =>
    have hc' := hb.nil rfl
    have hm0 : m = 0 := by have := hb.le; omega
    subst hm0
    subst hc'
    have hcs : cs = [] := List.eq_nil_of_length_eq_zero hlen'
    subst hcs
    have hr := run_append_owned_none (P := Try.prog) (w := w) B 22 o.type 5 i0 1 Try.underlying22 hi _ _ _ hm.own
    unfold Oper.wp
    simp [execOp, ho, resolve, invoke, builtin, hs, hx, hr, Result.andThen]
    exact h ao c w (by simpa using hm) ⟨rfl, rfl, rfl, Nat.le_refl _, fun _ _ _ => rfl⟩
  | some ad =>
    obtain ⟨v', w', hr, hown, hgrow, _, hsrc⟩ := run_append_own_at (P := Try.prog) w B 22 o.type 5 i0 (.int .u8 0) 1 1 Try.underlying22 hi hz0 hz1 hz2 rfl (by decide) _ _ _ hm.own ad m c' (cs.map (Value.int .u8)) (by simp [hlen']) hb.news (ints_oneCell _ _) (by unfold maxLen; omega) (by omega) hB
    rw [← List.map_append] at hown
    have hex : ∃ ao1 c1, v' = .slice ao1 (n + m) c1 := by
      rcases hown.2 with ⟨hv, h0⟩ | ⟨g, cap, cur, hv, _⟩
      · exact ⟨.none, 0, by rw [hv, h0]⟩
      · exact ⟨_, _, hv⟩
    obtain ⟨ao1, c1, hv⟩ := hex
    subst hv
    unfold Oper.wp execOp
    simp only [ho, resolve, invoke, builtin, Sem.run_bind, Sem.run_pure, Result.andThen_ok, List.map_toArray, List.map_cons, List.map_nil, hs, hx, hr]
    exact h ao1 c1 w' ⟨by simp [hlen, hlen'], hown, hm.byt.app hb.byt⟩ hgrow

/-- .. of a text. -/
theorem step_appT {ops : Array Oper} {o : Oper} {a : Act} {w : World} {K : Act → World → Prop} {Q : Exit → Act → World → Prop} {G : Prop} (hgd : o.guard = none) (sl x : Operand)
    (ho : o.op = .call { callee := .builtin .append, args := #[sl, x], argTypes := #[22, 9] })
    (B : Nat) (ao : Option Addr) (n c : Nat) (bs : List Int) (hs : a.eval sl = .slice ao n c) (hm : Mine B w ao n c bs)
    (s : ByteArray) (hx : a.eval x = .string s) (hbound : n + s.size ≤ 140737488355328) (hB : B ≤ w.heap.size)
    (h : ∀ ao1 c1 w1, Mine B w1 ao1 (n + s.size) c1 (bs ++ nums s) → w.grownBy w1 (Value.slice ao n c).ownBlock → K (a.put o.dst (.slice ao1 (n + s.size) c1)) w1) :
    if Region.wanted o (yielded ops a.tmps) = true then Oper.wp Try.prog o a w K Q else G := by
  have hw : Region.wanted o (yielded ops a.tmps) = true := by simp [Region.wanted, hgd]
  rw [if_pos hw]
  obtain ⟨i0, hi, hz0, hz1, hz2⟩ := info_parts Try.infoByte
  obtain ⟨v', w', hr, hown, hgrow, _⟩ := Lib.run_append_own_string (P := Try.prog) w B 22 9 o.type 5 i0 Try.underlying22 Try.underlying9 hi hz0 hz1 hz2 _ _ _ hm.own s (by unfold maxLen; omega) (by omega) hB
  have hcells : Lib.strCells s = (nums s).map (Value.int .u8) := by simp [Lib.strCells, nums]
  rw [hcells, ← List.map_append] at hown
  have hex : ∃ ao1 c1, v' = .slice ao1 (n + s.size) c1 := by
    rcases hown.2 with ⟨hv, h0⟩ | ⟨g, cap, cur, hv, _⟩
    · exact ⟨.none, 0, by rw [hv, h0]⟩
    · exact ⟨_, _, hv⟩
  obtain ⟨ao1, c1, hv⟩ := hex
  subst hv
  unfold Oper.wp execOp
  simp only [ho, resolve, invoke, builtin, Sem.run_bind, Sem.run_pure, Result.andThen_ok, List.map_toArray, List.map_cons, List.map_nil, hs, hx, hr]
  exact h ao1 c1 w' ⟨by simp [hm.len, nums_length], hown, hm.byt.app (nums_byt s)⟩ hgrow

/-- A call at a step of a region that draws its order. -/
theorem step_call2 {P : Program} {ops : Array Oper} {o : Oper} {a : Act} {w : World} {K : Act → World → Prop} {Q : Exit → Act → World → Prop} {G : Prop} (hgd : o.guard = none) (f : FuncId) (x y : Operand) (t u : TypeId)
    (ho : o.op = .call { callee := .value (.func f), args := #[x, y], argTypes := #[t, u] }) (eg : ∀ args w, (callFunc f args).run P w = .ok (.enter f args) w)
    (vx vy : Value) (hx : a.eval x = vx) (hy : a.eval y = vy) {R : Ending → World → Prop} (hc : Calls P f #[vx, vy] w R)
    (h : ∀ e w', R e w' → ∃ v, e = .returned v ∧ K (a.put o.dst v) w') :
    if Region.wanted o (yielded ops a.tmps) = true then Oper.wp P o a w K Q else G := by
  have hw : Region.wanted o (yielded ops a.tmps) = true := by simp [Region.wanted, hgd]
  rw [if_pos hw]
  have he : a.eval (.func f) = .func (.func f) #[] #[] := rfl
  unfold Oper.wp
  simp [execOp, ho, resolve, invoke, he, eg, go_sem]
  simp [go_sem] at hx hy
  rw [hx, hy]
  refine hc.mono ?_
  intro e w' hr
  obtain ⟨v, rfl, hk⟩ := h e w' hr
  simpa [go_sem] using hk

/-- 'append(out, s...)', s a text: what has changed. -/
theorem wpList_appTG {ops : Array Oper} {rest : List Oper} {o : Oper} {a : Act} {w : World} {Q : Exit → Act → World → Prop} (hgd : o.guard = none) (sl x : Operand)
    (ho : o.op = .call { callee := .builtin .append, args := #[sl, x], argTypes := #[22, 9] })
    (B : Nat) (ao : Option Addr) (n c : Nat) (bs : List Int) (hs : a.eval sl = .slice ao n c) (hm : Mine B w ao n c bs)
    (s : ByteArray) (hx : a.eval x = .string s) (hbound : n + s.size ≤ 140737488355328) (hB : B ≤ w.heap.size)
    (h : ∀ ao1 c1 w1, Mine B w1 ao1 (n + s.size) c1 (bs ++ nums s) → w.grownBy w1 (Value.slice ao n c).ownBlock → wpList Try.prog ops Q rest (a.put o.dst (.slice ao1 (n + s.size) c1)) w1) :
    wpList Try.prog ops Q (o :: rest) a w := by
  obtain ⟨i0, hi, hz0, hz1, hz2⟩ := info_parts Try.infoByte
  refine Lib.wpList_append_own_string w hgd sl x 22 9 ho B 5 i0 Try.underlying22 Try.underlying9 hi hz0 hz1 hz2 _ _ _ hs hm.own s hx (by unfold maxLen; omega) (by omega) hB ?_
  intro v' w' hown hgrow _
  have hcells : Lib.strCells s = (nums s).map (Value.int .u8) := by simp [Lib.strCells, nums]
  rw [hcells, ← List.map_append] at hown
  have hex : ∃ ao1 c1, v' = .slice ao1 (n + s.size) c1 := by
    rcases hown.2 with ⟨hv, h0⟩ | ⟨g, cap, cur, hv, _⟩
    · exact ⟨.none, 0, by rw [hv, h0]⟩
    · exact ⟨_, _, hv⟩
  obtain ⟨ao1, c1, hv⟩ := hex
  subst hv
  exact h ao1 c1 w' ⟨by simp [hm.len, nums_length], hown, hm.byt.app (nums_byt s)⟩ hgrow

end Go.Proofs.Ytfgghgoonfamkaa
