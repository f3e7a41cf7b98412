/-
  A map of slices of ints that is written by 'm[k] = append(m[k], v)': the entry that is taken first, and what the store at it leaves. Conditions: the map was made by the call itself, no two keys' slices lie in one row.
  The finder of package deflate in memory: the block of its struct, its map from three bytes to places, and what stays as it was when it goes on. Conditions: at most 32,768 bytes.
-/
import Derived.Test.YtnoabdafmgmenaaGreatDoorMMem
import Derived.Maps.GroupsBeside
import Derived.WideKeyEntry
import Derived.DeepKeys4
import Derived.Test.YtnoabdafmgmenaaGreatDoorMPlain
import Derived.BigQuiet
import Derived.Deep.RegionLaw
namespace Go.Proofs.YtnoabdafmgmenaaGreatDoor
open Go.RowKit Go.ChangeMaps Go.MapKept Go.Maps
open Go.WideElems (Fit rd rg pl rd_val entry_then_store)
open Go.WideMaps (KeyLaw)
set_option linter.unusedVariables false
set_option linter.unusedSimpArgs false

section
variable {H : Type} {P : Program} {k t E : TypeId} {w : World} {base : Nat} {e : TypeId} {q : IntKind} {b n : Nat} {D : DataW H}

/-- 'm[k] = append(m[k], v)': the entry, and the store at it. -/
theorem groups_entry (K : KeyLaw P k) (ht : P.underlying t = some (.map k E)) (hz : ∀ u : World, (zeroValue E).run P u = .ok (.slice none 0 0) u) (h : w.ownsGroups P k base e q b n D) (hn : n < maxLen) {key : Value} {kl : Lit} (hkey : keyOf P k key = some kl) :
    ∃ v zs st m, (Instr.mapEntry t (.map (some b)) key).run P w = .ok (.tuple #[v, goInt st]) m ∧ D.atKey kl .nil = rowDatum q v zs ∧ zs.length ≤ n ∧ w.grownBy m (some b) ∧ m.heap.size = w.heap.size ∧ m.ownsInts base e q v zs ∧
      (∀ No : Nat → Prop, w.Shuns b No → ∀ g, v.ownBlock = some g → ¬ No g) ∧
      ∀ (w1 : World) (v' : Value) (zs' : List Int), m.grownBy w1 v.ownBlock → w1.ownsInts base e q v' zs' → zs'.length ≤ n + 1 → (v'.ownBlock = v.ownBlock ∨ ∃ g, v'.ownBlock = some g ∧ m.heap.size ≤ g) →
        ∃ w2, (Instr.entryStore t (.map (some b)) (goInt st) v').run P w1 = .ok () w2 ∧ w2.ownsGroups P k base e q b (n + 1) (D.put kl (rowDatum q v' zs')) ∧ w1.grownBy w2 (some b) ∧
          ∀ No : Nat → Prop, w.Shuns b No → (∀ g, v'.ownBlock = some g → ¬ No g) → w2.Shuns b No := by
  have Kd : Keyed P k := Keyed.of_law K
  obtain ⟨es, clock, hb, F, hs, rfl, hbb, hlen, hap⟩ := h
  obtain ⟨v0, st, es1, clock1, hme, hv0, hst⟩ := entry_then_store (R := rowElem (H := H) w base e q) K ht hz hb F hkey
  have hblt : b < w.heap.size := (Array.getElem?_eq_some_iff.1 hb).1
  have owned : ∀ x ∈ es.toList, ∃ zs, w.ownsInts base e q x.val zs := fun x hx => by
    obtain ⟨y, hy⟩ := F.reads x hx
    obtain ⟨z, hz, _⟩ := rd_val hy
    obtain ⟨zs, ho, _⟩ := rowElem_inv hz
    exact ⟨zs, ho⟩
  have hgm : w.grownBy (setBlock w b (.map es1 clock1)) (some b) := ⟨rfl, rfl, rfl, by simp [setBlock], fun i _ hi => heap_setBlock_other hb _ (fun e1 => hi (by rw [e1]))⟩
  have own_ne : ∀ {u : Value} {ys : List Int} {W : World}, W.ownsInts base e q u ys → u.ownBlock = none ∨ u.ownBlock ≠ some b := fun {u ys W} ho => by
    cases hu : u.ownBlock with
    | none => exact Or.inl rfl
    | some g =>
      refine Or.inr (fun e1 => ?_)
      have := (ho.1.lt g hu).1
      cases e1
      omega
  -- what stands at the key
  have hat : ∃ zs, (DataW.map ((es.toList.map (rg P k (rowElem (H := H) w base e q))).foldr DataW.insert [])).atKey kl .nil = rowDatum q v0 zs ∧ w.ownsInts base e q v0 zs ∧ zs.length ≤ n ∧ (∀ x ∈ es.toList, x.key ≠ key → x.val.ownBlock = none ∨ x.val.ownBlock ≠ v0.ownBlock) ∧
      ∀ No : Nat → Prop, w.Shuns b No → ∀ g, v0.ownBlock = some g → ¬ No g := by
    rcases Maps.fit_look false Kd ht (hz w) hb F hkey with ⟨hrun, hno, hat⟩ | ⟨e0, y, hm0, h3, hrun, hR, hat, _⟩
    · have e0 : v0 = .slice none 0 0 := by
        rcases hv0 with ⟨x, hx, hk, _⟩ | ⟨_, hv⟩
        · exact absurd hk (hno x hx)
        · exact hv
      subst e0
      refine ⟨[], hat _, World.ownsInts_nil _ _ _ _, Nat.zero_le _, fun x _ _ => ?_, fun No _ g hg => by cases hg⟩
      cases x.val.ownBlock <;> simp [Value.ownBlock]
    · have e1 : v0 = e0.val := by
        rcases hv0 with ⟨x, hx, hk, hv⟩ | ⟨hno, _⟩
        · obtain ⟨_, _, hrun2, _⟩ := hst (setBlock w b (.map es1 clock1)) (.slice none 0 0) (heap_setBlock_same hb _)
          rcases Kd.find w hkey es.toList F.keys with ⟨_, g2⟩ | ⟨j, ej, g1, g2, g3⟩
          · exact absurd hk (g2 x hx)
          · have same : ∀ z ∈ es.toList, z.key = key → z = ej := fun z hz' hzk => by
              obtain ⟨i, hi, ex⟩ := List.getElem_of_mem hz'
              by_cases hij : i = j
              · subst hij
                rw [List.getElem?_eq_getElem hi, ex] at g2
                exact Option.some.inj g2
              · exfalso
                exact WideElems.other_key F g2 (show es.toList[i]? = some z by rw [List.getElem?_eq_getElem hi, ex]) hij (by rw [hzk, g3])
            rw [hv, same x hx hk, same e0 hm0 h3]
        · exact absurd h3 (hno e0 hm0)
      obtain ⟨zs, ho, rfl⟩ := rowElem_inv hR
      rw [e1]
      exact ⟨zs, hat _, ho, hlen e0 hm0 zs ho, fun x hx hne => hap x hx e0 hm0 (by rw [h3]; exact hne), fun No hsh g hg => hsh es clock hb e0 hm0 g hg⟩
  obtain ⟨zs, hat, ho0, hzl, hv, hshv⟩ := hat
  refine ⟨v0, zs, st, _, hme, hat, hzl, hgm, by simp [setBlock], ho0.kept hgm (own_ne ho0), hshv, ?_⟩
  intro w1 v' zs' hg hown' hl' hloc
  have hv0b : v0.ownBlock ≠ some b := fun e1 => by have := (ho0.1.lt b e1).1; omega
  have hb1 : w1.heap[b]? = some (.map es1 clock1) := (hg.block b (by simpa [setBlock] using hblt) (fun e1 => hv0b e1.symm)).trans (heap_setBlock_same hb _)
  obtain ⟨es', clock', hrun, hmu⟩ := hst w1 v' hb1
  have hs1 : ∀ x ∈ es.toList, x.key ≠ key → ∀ z, rowElem (H := H) w base e q x.val = some z → rowElem w1 base e q x.val = some z := by
    intro x hx hne z hz'
    obtain ⟨ys, ho, rfl⟩ := rowElem_inv hz'
    exact rowElem_mk ((ho.kept hgm (own_ne ho)).kept hg (hv x hx hne))
  obtain ⟨es2, clock2, hrun2, F', hput, _, _, hwho⟩ := Maps.fit_store (R' := rowElem w1 base e q) Kd ht hb F (Nat.lt_of_le_of_lt hs hn) hs1 hkey (rowElem_mk hown')
  obtain ⟨rfl, rfl⟩ : es2 = es' ∧ clock2 = clock' := by
    rw [hmu] at hrun2
    have e1 : setBlock w b (.map es' clock') = setBlock w b (.map es2 clock2) := by simpa using hrun2
    have e2 := congrArg (fun z : World => z.heap[b]?) e1
    simp only [heap_setBlock_same hb] at e2
    simp at e2
    exact ⟨e2.1.symm, e2.2.symm⟩
  have hg2 : w1.grownBy (setBlock w1 b (.map es2 clock2)) (some b) := ⟨rfl, rfl, rfl, by simp [setBlock], fun i _ hi => heap_setBlock_other hb1 _ (fun e1 => hi (by rw [e1]))⟩
  have hs2 : ∀ x ∈ es2.toList, ∀ z, rowElem (H := H) w1 base e q x.val = some z → rowElem (setBlock w1 b (.map es2 clock2)) base e q x.val = some z := by
    intro x _ z hz'
    obtain ⟨ys, ho, rfl⟩ := rowElem_inv hz'
    exact rowElem_mk (ho.kept hg2 (own_ne ho))
  obtain ⟨F2, hmap2, _⟩ := F'.stay hs2
  have hsz : (setBlock w b (.map es1 clock1)).heap.size = w.heap.size := by simp [setBlock]
  have old_new : ∀ x ∈ es.toList, x.key ≠ key → x.val.ownBlock = none ∨ x.val.ownBlock ≠ v'.ownBlock := by
    intro x hx hne
    rcases hloc with h1 | ⟨g, h1, h2⟩
    · rw [h1]
      exact hv x hx hne
    · cases hx' : x.val.ownBlock with
      | none => exact Or.inl rfl
      | some gx =>
        obtain ⟨ys, ho⟩ := owned x hx
        have := (ho.1.lt gx hx').2
        refine Or.inr (fun e1 => ?_)
        rw [h1] at e1
        cases e1
        omega
  refine ⟨_, hrun, ⟨es2, clock2, heap_setBlock_same hb1 _, F2, ?_, ?_, hbb, ?_, ?_⟩, hg2, ?_⟩
  · have e1 : es2.size = ((es2.toList.map (rg P k (rowElem (H := H) w1 base e q))).foldr DataW.insert []).length := by rw [length_sorted]; simp
    rw [e1, hput]
    unfold putKey
    rw [length_insert]
    have e2 := List.length_filter_le (notKey kl) ((es.toList.map (rg P k (rowElem (H := H) w base e q))).foldr DataW.insert [])
    rw [length_sorted] at e2
    simp at e2
    omega
  · rw [hmap2, DataW.put_eq, hput]
  · intro x hx ys ho
    have back : w1.ownsInts base e q x.val ys := by
      obtain ⟨y, hy⟩ := F'.reads x hx
      obtain ⟨z, hz', _⟩ := rd_val hy
      obtain ⟨ys', ho', _⟩ := rowElem_inv hz'
      rw [ho.unique (ho'.kept hg2 (own_ne ho'))]
      exact ho'
    rcases hwho x hx with ⟨hx0, hne⟩ | ⟨_, hval⟩
    · obtain ⟨ys0, hoo⟩ := owned x hx0
      have := hlen x hx0 ys0 hoo
      rw [back.unique ((hoo.kept hgm (own_ne hoo)).kept hg (hv x hx0 hne))]
      omega
    · rw [hval] at back
      rw [back.unique hown']
      exact hl'
  · intro x hx y hy hne
    rcases hwho x hx with ⟨hx0, hxk⟩ | ⟨hxk, hxv⟩ <;> rcases hwho y hy with ⟨hy0, hyk⟩ | ⟨hyk, hyv⟩
    · exact hap x hx0 y hy0 hne
    · rw [hyv]
      exact old_new x hx0 hxk
    · rw [hxv]
      cases hv' : v'.ownBlock with
      | none => exact Or.inl rfl
      | some g =>
        refine Or.inr (fun e1 => ?_)
        rcases old_new y hy0 hyk with h | h
        · rw [h] at e1
          cases e1
        · exact h (by rw [hv', e1])
    · exact absurd (hxk.trans hyk.symm) hne
  · intro No hsh hno es3 clock3 hb3 y hy g hyg
    obtain ⟨rfl, rfl⟩ : es2 = es3 ∧ clock2 = clock3 := by rw [heap_setBlock_same hb1] at hb3; simpa using hb3
    rcases hwho y hy with ⟨hy0, _⟩ | ⟨_, hval⟩
    · exact hsh es clock hb y hy0 g hyg
    · exact hno g (hval ▸ hyg)
end

/-! The keys: three bytes. -/
theorem Tryz.laidOutD : laidOutB Tryz.prog = true := by kernel_rfl
theorem Tryz.rowTri : 157 < Tryz.prog.types.size := of_decide_eq_true (show decide (157 < Tryz.prog.types.size) = true by kernel_rfl)
theorem Tryz.wideTri : (match Tryz.prog.underlying 157 with | some (.array _ _) | some (.struct _) => true | _ => false) = true := by kernel_rfl
theorem Tryz.keyTri : Tryz.prog.keyTypeAt 2 157 = true := by kernel_rfl
set_option maxRecDepth 20000 in
theorem triLaw : KeyLaw Tryz.prog 157 := deep_law_laid Tryz.laidOutD (m := 2) (by omega) Tryz.rowTri Tryz.keyTri Tryz.wideTri
theorem triKeyed : Keyed Tryz.prog 157 := Keyed.of_law triLaw
def triV (a b c : Int) : Value := .agg #[.int .u8 a, .int .u8 b, .int .u8 c]
theorem zeroInts (u : World) : (zeroValue 96).run Tryz.prog u = .ok (.slice none 0 0) u := by kernel_rfl
theorem triKey {a b c : Int} (ha : 0 ≤ a ∧ a ≤ 255) (hb : 0 ≤ b ∧ b ≤ 255) (hc : 0 ≤ c ∧ c ≤ 255) : ∃ kl, keyOf Tryz.prog 157 (triV a b c) = some kl := by
  have hs : Tryz.prog.types.size = (Tryz.prog.types.size - 1) + 1 := by kernel_rfl
  have hk : Tryz.prog.keyType 157 = true := by kernel_rfl
  have hc3 : Tryz.prog.cellsOf 157 = 3 := by kernel_rfl
  have hc1 : Tryz.prog.cellsOf 5 = 1 := by kernel_rfl
  have w8 : ∀ {x : Int}, 0 ≤ x ∧ x ≤ 255 → (Lit.int .u8 x).wf = true := fun {x} h => WalkArith.wf_u8 h
  generalize Tryz.prog.types.size - 1 = d at hs
  unfold keyOf
  rw [hs]
  simp [Tryz.underlying157, hk, hc3, triV, Value.formed, Value.cells, Program.keyLits, hc1, Tryz.underlying5, w8 ha, w8 hb, w8 hc, List.range_succ]
theorem triV_inj {a b c a' b' c' : Int} (h : triV a b c = triV a' b' c') : a = a' ∧ b = b' ∧ c = c' := by
  simpa [triV] using h
end Go.Proofs.YtnoabdafmgmenaaGreatDoor

namespace Go.Proofs.YtnoabdafmgmenaaGreatDoor
open Go.RowKit Go.Maps
set_option linter.unusedVariables false
set_option linter.unusedSimpArgs false

/-- Do these three bytes stand at place p? -/
def hasT (bs : List Int) (a b c : Int) (p : Nat) : Bool := decide (p + 3 ≤ bs.length) && (decide (bs[p]?.getD 0 = a) && (decide (bs[p + 1]?.getD 0 = b) && decide (bs[p + 2]?.getD 0 = c)))
def plc (bs : List Int) (a b c : Int) (M : Nat) : List Nat := (List.range M).filter (hasT bs a b c)
def nI (l : List Nat) : List Int := l.map fun (n : Nat) => (n : Int)
theorem plc_succ (bs : List Int) (a b c : Int) (M : Nat) : plc bs a b c (M + 1) = plc bs a b c M ++ (if hasT bs a b c M = true then [M] else []) := by
  unfold plc
  rw [List.range_succ, List.filter_append]
  congr 1
  cases h : hasT bs a b c M <;> simp [h]
theorem plc_len (bs : List Int) (a b c : Int) (M : Nat) : (plc bs a b c M).length ≤ M := by
  have := List.length_filter_le (hasT bs a b c) (List.range M)
  simpa [plc] using this
theorem plc_lt {bs : List Int} {a b c : Int} {M q : Nat} (h : q ∈ plc bs a b c M) : q < M ∧ q + 3 ≤ bs.length ∧ bs[q]?.getD 0 = a ∧ bs[q + 1]?.getD 0 = b ∧ bs[q + 2]?.getD 0 = c := by
  have h1 := List.mem_filter.1 h
  have h2 : q < M := by simpa using h1.1
  have h3 := h1.2
  unfold hasT at h3
  simp at h3
  exact ⟨h2, h3⟩
theorem nI_len (l : List Nat) : (nI l).length = l.length := by simp [nI]
theorem nI_app (l m : List Nat) : nI (l ++ m) = nI l ++ nI m := by simp [nI]
theorem nI_nil {l : List Nat} : nI l = [] ↔ l = [] := by simp [nI]

/-- How a list of ints reads in the map. -/
def rowD (zs : List Int) : DataW Unit := if zs = [] then .nil else rowDatum .i64 (.slice (some ⟨0, 0, none⟩) 0 0) zs
theorem rowD_is {w : World} {base : Nat} {e : TypeId} {v : Value} {zs G : List Int} (ho : w.ownsInts base e .i64 v zs) (h : rowD G = rowDatum .i64 v zs) : zs = G := by
  unfold rowD at h
  rcases ho.datum (H := Unit) with ⟨h1, h2⟩ | h1
  · rw [h1] at h
    split at h
    · rename_i hG; rw [h2, hG]
    · simp [rowDatum] at h
  · rw [h1] at h
    split at h
    · cases h
    · simp only [rowDatum] at h
      injection h with h3 _
      unfold ChangeShapes.lits at h3
      refine (List.map_inj_right ?_).1 h3.symm
      intro a b hab
      simpa using hab
theorem rowD_put {w : World} {base : Nat} {e : TypeId} {v : Value} {zs : List Int} (ho : w.ownsInts base e .i64 v zs) (h : zs ≠ []) : rowDatum (H := Unit) .i64 v zs = rowD zs := by
  rw [ho.datum_pos h]
  unfold rowD
  rw [if_neg h]
  rfl

/-- The bytes that are gone over; what lies below lo is not the finder's. -/
structure Fv where
  lo : Nat
  bo : Option Addr
  bn : Nat
  bc : Nat
  bs : List Int

/-- The map tells of every three bytes the places below M. -/
def Grp (E : Fv) (B base : Nat) (w : World) (M : Nat) : Prop :=
  ∃ D : DataW Unit, w.ownsGroups Tryz.prog 157 base 3 .i64 B M D ∧ ∀ a b c kl, keyOf Tryz.prog 157 (triV a b c) = some kl → D.atKey kl .nil = rowD (nI (plc E.bs a b c M))

def fv (E : Fv) (A B : Nat) : Array Value := #[.slice E.bo E.bn E.bc, .int .i64 (A : Int), .map (some B)]

/-- Block g is the finder at the place A, block B its map with the places below M; No: the blocks that no row of the map lies in. -/
structure Fn (E : Fv) (No : Nat → Prop) (g B base : Nat) (w : World) (A M : Nat) : Prop where
  st : w.heap[g]? = some (.cells (fv E A B) 138 (0, 0))
  own : Grp E B base w M
  sh : w.Shuns B No
  ng : No g
  lt : ∀ k, No k → k < w.heap.size
  gB : g ≠ B
  b : ∀ w', Below E.lo w w' → Bs w' E.bo E.bn E.bc E.bs
  lo : E.lo ≤ g ∧ E.lo ≤ B ∧ E.lo ≤ base
  bw : base ≤ w.heap.size
  bn : E.bn ≤ 32768
  bl : E.bs.length = E.bn
  A : A ≤ E.bn
  M : M ≤ E.bn

/-- Only the finder, its map and the map's rows have changed; there may be new blocks. -/
structure Pf (No : Nat → Prop) (g B base : Nat) (w w' : World) : Prop where
  os : w'.os = w.os
  tape : w'.tape = w.tape
  output : w'.output = w.output
  size : w.heap.size ≤ w'.heap.size
  block : ∀ k, k < w.heap.size → k ≠ g → k ≠ B → (k < base ∨ No k) → w'.heap[k]? = w.heap[k]?

section
variable {E : Fv} {No : Nat → Prop} {g B base : Nat} {w w' w'' : World} {A M : Nat}

theorem Pf.refl : Pf No g B base w w := ⟨rfl, rfl, rfl, Nat.le_refl _, fun _ _ _ _ _ => rfl⟩
theorem Pf.trans (h : Pf No g B base w w') (k : Pf No g B base w' w'') : Pf No g B base w w'' :=
  ⟨k.os.trans h.os, k.tape.trans h.tape, k.output.trans h.output, Nat.le_trans h.size k.size, fun i hi h1 h2 h3 => (k.block i (Nat.lt_of_lt_of_le hi h.size) h1 h2 h3).trans (h.block i hi h1 h2 h3)⟩
theorem Pf.of (h : Below w.heap.size w w') : Pf No g B base w w' := ⟨h.os, h.tape, h.output, h.size, fun k hk _ _ _ => h.block k hk⟩
theorem Pf.below (h : Pf No g B base w w') {lo : Nat} (h1 : lo ≤ g) (h2 : lo ≤ B) (h3 : lo ≤ base) (hs : lo ≤ w.heap.size) : Below lo w w' :=
  ⟨h.os, h.tape, h.output, h.size, fun k hk => h.block k (by omega) (by omega) (by omega) (.inl (by omega))⟩

theorem grown_of (h : Below w.heap.size w w') : w.grownBy w' none := ⟨h.os, h.tape, h.output, h.size, fun i hi _ => h.block i hi⟩
theorem Grp.lt (h : Grp E B base w M) : B < w.heap.size := by
  obtain ⟨D, ⟨es, clock, hb, _⟩, _⟩ := h
  exact (Array.getElem?_eq_some_iff.1 hb).1
theorem Grp.later (h : Grp E B base w M) (hb : Below w.heap.size w w') : Grp E B base w' M := by
  obtain ⟨D, ho, hr⟩ := h
  exact ⟨D, ho.kept (grown_of hb) (by simp) (ho.rowsAbove (fun j hj => by cases hj)), hr⟩
theorem Fn.glt (h : Fn E No g B base w A M) : g < w.heap.size := (Array.getElem?_eq_some_iff.1 h.st).1
theorem Fn.later (h : Fn E No g B base w A M) (hb : Below w.heap.size w w') : Fn E No g B base w' A M := by
  refine ⟨by rw [hb.block g h.glt]; exact h.st, h.own.later hb, h.sh.kept (grown_of hb) h.own.lt (by simp), h.ng, fun k hk => Nat.lt_of_lt_of_le (h.lt k hk) hb.size, h.gB, fun w1 f => h.b w1 ((hb.mono ?_).trans f), h.lo, Nat.le_trans h.bw hb.size, h.bn, h.bl, h.A, h.M⟩
  have := h.lo.1
  have := h.glt
  omega
theorem Fn.c0 (h : Fn E No g B base w A M) : w.cell? ⟨g, 0, none⟩ = some (.slice E.bo E.bn E.bc) := by rw [cell_of_row w g 0 _ _ _ h.st]; rfl
theorem Fn.c1 (h : Fn E No g B base w A M) : w.cell? ⟨g, 1, none⟩ = some (.int .i64 (A : Int)) := by rw [cell_of_row w g 1 _ _ _ h.st]; rfl
theorem Fn.c2 (h : Fn E No g B base w A M) : w.cell? ⟨g, 2, none⟩ = some (.map (some B)) := by rw [cell_of_row w g 2 _ _ _ h.st]; rfl
theorem Fn.free (h : Fn E No g B base w A M) (i : Nat) : w.frozen? ⟨g, i, none⟩ = false := frozen_of_row w g i _ _ h.st
theorem Fn.bs (h : Fn E No g B base w A M) : Bs w E.bo E.bn E.bc E.bs := h.b w (Below.refl _ _)
theorem Fn.los (h : Fn E No g B base w A M) : E.lo ≤ w.heap.size := by have := h.lo.1; have := h.glt; omega
/-- The place is moved on. -/
theorem Fn.putA (h : Fn E No g B base w A M) (A' : Nat) (X : Int) (hX : X = (A' : Int)) (hA : A' ≤ E.bn) : Fn E No g B base (w.setCell ⟨g, 1, none⟩ (.int .i64 X)) A' M ∧ Pf No g B base w (w.setCell ⟨g, 1, none⟩ (.int .i64 X)) := by
  subst hX
  have hg : w.grownBy (w.setCell ⟨g, 1, none⟩ (.int .i64 (A' : Int))) (some g) := ⟨rfl, rfl, rfl, by simp, fun i _ hi => heap_setCell_other w ⟨g, 1, none⟩ i _ (fun e => hi (by rw [e]))⟩
  have pf : Pf No g B base w (w.setCell ⟨g, 1, none⟩ (.int .i64 (A' : Int))) := ⟨rfl, rfl, rfl, by simp, fun i _ h1 _ _ => heap_setCell_other w ⟨g, 1, none⟩ i _ h1⟩
  have hgB := h.gB
  refine ⟨⟨?_, ?_, h.sh.kept hg h.own.lt (fun e => hgB (Option.some.inj e).symm), h.ng, fun k hk => by simpa using h.lt k hk, h.gB, fun w1 f => h.b w1 ((pf.below h.lo.1 h.lo.2.1 h.lo.2.2 h.los).trans f), h.lo, by simpa using h.bw, h.bn, h.bl, hA, h.M⟩, pf⟩
  · rw [heap_setCell_same w g 1 _ _ _ h.st]
    simp [fv]
  · obtain ⟨D, ho, hr⟩ := h.own
    exact ⟨D, ho.kept hg (fun e => hgB (Option.some.inj e).symm) (h.sh.rowsOff (fun j hj => by cases hj; exact h.ng)), hr⟩
end

/-- What triple answers. -/
def triQ (bs : List Int) (p : Nat) : Value := if p + 3 ≤ bs.length then .tuple #[triV (bs[p]?.getD 0) (bs[p + 1]?.getD 0) (bs[p + 2]?.getD 0), .bool true] else .tuple #[triV 0 0 0, .bool false]
/-- What alike answers. -/
def likeQ (bs : List Int) (q A s m : Nat) : Nat := if eqb bs q A s = true then mtU (eqb bs q A) m 0 else 0

end Go.Proofs.YtnoabdafmgmenaaGreatDoor
