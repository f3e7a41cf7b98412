/-
  A map of slices of ints that is written by 'm[k] = append(m[k], v)': the entry that is taken first, and what the store at it leaves. Conditions: the map was made by the call itself, no two keys' slices lie in one row.
-/
import Derived.Test.YtalkeooejobjhaaDoorMMem
import Derived.Maps.GroupsBeside
import Derived.WideKeyEntry
import Derived.DeepKeys4
namespace Go.Proofs.YtalkeooejobjhaaDoor
open Go.RowKit Go.ChangeMaps Go.MapKept Go.Maps
open Go.WideElems (Fit rd rg pl rd_val entry_then_store)
open Go.WideMaps (KeyLaw)
set_option linter.unusedVariables false
set_option linter.unusedSimpArgs false

section
variable {H : Type} {P : Program} {k t E : TypeId} {w : World} {base : Nat} {e : TypeId} {q : IntKind} {b n : Nat} {D : DataW H}

/-- 'm[k] = append(m[k], v)': the entry, and the store at it. -/
theorem groups_entry (K : KeyLaw P k) (ht : P.underlying t = some (.map k E)) (hz : ∀ u : World, (zeroValue E).run P u = .ok (.slice none 0 0) u) (h : w.ownsGroups P k base e q b n D) (hn : n < maxLen) {key : Value} {kl : Lit} (hkey : keyOf P k key = some kl) :
    ∃ v zs st m, (Instr.mapEntry t (.map (some b)) key).run P w = .ok (.tuple #[v, goInt st]) m ∧ D.atKey kl .nil = rowDatum q v zs ∧ zs.length ≤ n ∧ w.grownBy m (some b) ∧ m.heap.size = w.heap.size ∧ m.ownsInts base e q v zs ∧
      (∀ No : Nat → Prop, w.Shuns b No → ∀ g, v.ownBlock = some g → ¬ No g) ∧
      ∀ (w1 : World) (v' : Value) (zs' : List Int), m.grownBy w1 v.ownBlock → w1.ownsInts base e q v' zs' → zs'.length ≤ n + 1 → (v'.ownBlock = v.ownBlock ∨ ∃ g, v'.ownBlock = some g ∧ m.heap.size ≤ g) →
        ∃ w2, (Instr.entryStore t (.map (some b)) (goInt st) v').run P w1 = .ok () w2 ∧ w2.ownsGroups P k base e q b (n + 1) (D.put kl (rowDatum q v' zs')) ∧ w1.grownBy w2 (some b) ∧
          ∀ No : Nat → Prop, w.Shuns b No → (∀ g, v'.ownBlock = some g → ¬ No g) → w2.Shuns b No := by
  have Kd : Keyed P k := Keyed.of_law K
  obtain ⟨es, clock, hb, F, hs, rfl, hbb, hlen, hap⟩ := h
  obtain ⟨v0, st, es1, clock1, hme, hv0, hst⟩ := entry_then_store (R := rowElem (H := H) w base e q) K ht hz hb F hkey
  have hblt : b < w.heap.size := (Array.getElem?_eq_some_iff.1 hb).1
  have owned : ∀ x ∈ es.toList, ∃ zs, w.ownsInts base e q x.val zs := fun x hx => by
    obtain ⟨y, hy⟩ := F.reads x hx
    obtain ⟨z, hz, _⟩ := rd_val hy
    obtain ⟨zs, ho, _⟩ := rowElem_inv hz
    exact ⟨zs, ho⟩
  have hgm : w.grownBy (setBlock w b (.map es1 clock1)) (some b) := ⟨rfl, rfl, rfl, by simp [setBlock], fun i _ hi => heap_setBlock_other hb _ (fun e1 => hi (by rw [e1]))⟩
  have own_ne : ∀ {u : Value} {ys : List Int} {W : World}, W.ownsInts base e q u ys → u.ownBlock = none ∨ u.ownBlock ≠ some b := fun {u ys W} ho => by
    cases hu : u.ownBlock with
    | none => exact Or.inl rfl
    | some g =>
      refine Or.inr (fun e1 => ?_)
      have := (ho.1.lt g hu).1
      cases e1
      omega
  -- what stands at the key
  have hat : ∃ zs, (DataW.map ((es.toList.map (rg P k (rowElem (H := H) w base e q))).foldr DataW.insert [])).atKey kl .nil = rowDatum q v0 zs ∧ w.ownsInts base e q v0 zs ∧ zs.length ≤ n ∧ (∀ x ∈ es.toList, x.key ≠ key → x.val.ownBlock = none ∨ x.val.ownBlock ≠ v0.ownBlock) ∧
      ∀ No : Nat → Prop, w.Shuns b No → ∀ g, v0.ownBlock = some g → ¬ No g := by
    rcases Maps.fit_look false Kd ht (hz w) hb F hkey with ⟨hrun, hno, hat⟩ | ⟨e0, y, hm0, h3, hrun, hR, hat, _⟩
    · have e0 : v0 = .slice none 0 0 := by
        rcases hv0 with ⟨x, hx, hk, _⟩ | ⟨_, hv⟩
        · exact absurd hk (hno x hx)
        · exact hv
      subst e0
      refine ⟨[], hat _, World.ownsInts_nil _ _ _ _, Nat.zero_le _, fun x _ _ => ?_, fun No _ g hg => by cases hg⟩
      cases x.val.ownBlock <;> simp [Value.ownBlock]
    · have e1 : v0 = e0.val := by
        rcases hv0 with ⟨x, hx, hk, hv⟩ | ⟨hno, _⟩
        · obtain ⟨_, _, hrun2, _⟩ := hst (setBlock w b (.map es1 clock1)) (.slice none 0 0) (heap_setBlock_same hb _)
          rcases Kd.find w hkey es.toList F.keys with ⟨_, g2⟩ | ⟨j, ej, g1, g2, g3⟩
          · exact absurd hk (g2 x hx)
          · have same : ∀ z ∈ es.toList, z.key = key → z = ej := fun z hz' hzk => by
              obtain ⟨i, hi, ex⟩ := List.getElem_of_mem hz'
              by_cases hij : i = j
              · subst hij
                rw [List.getElem?_eq_getElem hi, ex] at g2
                exact Option.some.inj g2
              · exfalso
                exact WideElems.other_key F g2 (show es.toList[i]? = some z by rw [List.getElem?_eq_getElem hi, ex]) hij (by rw [hzk, g3])
            rw [hv, same x hx hk, same e0 hm0 h3]
        · exact absurd h3 (hno e0 hm0)
      obtain ⟨zs, ho, rfl⟩ := rowElem_inv hR
      rw [e1]
      exact ⟨zs, hat _, ho, hlen e0 hm0 zs ho, fun x hx hne => hap x hx e0 hm0 (by rw [h3]; exact hne), fun No hsh g hg => hsh es clock hb e0 hm0 g hg⟩
  obtain ⟨zs, hat, ho0, hzl, hv, hshv⟩ := hat
  refine ⟨v0, zs, st, _, hme, hat, hzl, hgm, by simp [setBlock], ho0.kept hgm (own_ne ho0), hshv, ?_⟩
  intro w1 v' zs' hg hown' hl' hloc
  have hv0b : v0.ownBlock ≠ some b := fun e1 => by have := (ho0.1.lt b e1).1; omega
  have hb1 : w1.heap[b]? = some (.map es1 clock1) := (hg.block b (by simpa [setBlock] using hblt) (fun e1 => hv0b e1.symm)).trans (heap_setBlock_same hb _)
  obtain ⟨es', clock', hrun, hmu⟩ := hst w1 v' hb1
  have hs1 : ∀ x ∈ es.toList, x.key ≠ key → ∀ z, rowElem (H := H) w base e q x.val = some z → rowElem w1 base e q x.val = some z := by
    intro x hx hne z hz'
    obtain ⟨ys, ho, rfl⟩ := rowElem_inv hz'
    exact rowElem_mk ((ho.kept hgm (own_ne ho)).kept hg (hv x hx hne))
  obtain ⟨es2, clock2, hrun2, F', hput, _, _, hwho⟩ := Maps.fit_store (R' := rowElem w1 base e q) Kd ht hb F (Nat.lt_of_le_of_lt hs hn) hs1 hkey (rowElem_mk hown')
  obtain ⟨rfl, rfl⟩ : es2 = es' ∧ clock2 = clock' := by
    rw [hmu] at hrun2
    have e1 : setBlock w b (.map es' clock') = setBlock w b (.map es2 clock2) := by simpa using hrun2
    have e2 := congrArg (fun z : World => z.heap[b]?) e1
    simp only [heap_setBlock_same hb] at e2
    simp at e2
    exact ⟨e2.1.symm, e2.2.symm⟩
  have hg2 : w1.grownBy (setBlock w1 b (.map es2 clock2)) (some b) := ⟨rfl, rfl, rfl, by simp [setBlock], fun i _ hi => heap_setBlock_other hb1 _ (fun e1 => hi (by rw [e1]))⟩
  have hs2 : ∀ x ∈ es2.toList, ∀ z, rowElem (H := H) w1 base e q x.val = some z → rowElem (setBlock w1 b (.map es2 clock2)) base e q x.val = some z := by
    intro x _ z hz'
    obtain ⟨ys, ho, rfl⟩ := rowElem_inv hz'
    exact rowElem_mk (ho.kept hg2 (own_ne ho))
  obtain ⟨F2, hmap2, _⟩ := F'.stay hs2
  have hsz : (setBlock w b (.map es1 clock1)).heap.size = w.heap.size := by simp [setBlock]
  have old_new : ∀ x ∈ es.toList, x.key ≠ key → x.val.ownBlock = none ∨ x.val.ownBlock ≠ v'.ownBlock := by
    intro x hx hne
    rcases hloc with h1 | ⟨g, h1, h2⟩
    · rw [h1]
      exact hv x hx hne
    · cases hx' : x.val.ownBlock with
      | none => exact Or.inl rfl
      | some gx =>
        obtain ⟨ys, ho⟩ := owned x hx
        have := (ho.1.lt gx hx').2
        refine Or.inr (fun e1 => ?_)
        rw [h1] at e1
        cases e1
        omega
  refine ⟨_, hrun, ⟨es2, clock2, heap_setBlock_same hb1 _, F2, ?_, ?_, hbb, ?_, ?_⟩, hg2, ?_⟩
  · have e1 : es2.size = ((es2.toList.map (rg P k (rowElem (H := H) w1 base e q))).foldr DataW.insert []).length := by rw [length_sorted]; simp
    rw [e1, hput]
    unfold putKey
    rw [length_insert]
    have e2 := List.length_filter_le (notKey kl) ((es.toList.map (rg P k (rowElem (H := H) w base e q))).foldr DataW.insert [])
    rw [length_sorted] at e2
    simp at e2
    omega
  · rw [hmap2, DataW.put_eq, hput]
  · intro x hx ys ho
    have back : w1.ownsInts base e q x.val ys := by
      obtain ⟨y, hy⟩ := F'.reads x hx
      obtain ⟨z, hz', _⟩ := rd_val hy
      obtain ⟨ys', ho', _⟩ := rowElem_inv hz'
      rw [ho.unique (ho'.kept hg2 (own_ne ho'))]
      exact ho'
    rcases hwho x hx with ⟨hx0, hne⟩ | ⟨_, hval⟩
    · obtain ⟨ys0, hoo⟩ := owned x hx0
      have := hlen x hx0 ys0 hoo
      rw [back.unique ((hoo.kept hgm (own_ne hoo)).kept hg (hv x hx0 hne))]
      omega
    · rw [hval] at back
      rw [back.unique hown']
      exact hl'
  · intro x hx y hy hne
    rcases hwho x hx with ⟨hx0, hxk⟩ | ⟨hxk, hxv⟩ <;> rcases hwho y hy with ⟨hy0, hyk⟩ | ⟨hyk, hyv⟩
    · exact hap x hx0 y hy0 hne
    · rw [hyv]
      exact old_new x hx0 hxk
    · rw [hxv]
      cases hv' : v'.ownBlock with
      | none => exact Or.inl rfl
      | some g =>
        refine Or.inr (fun e1 => ?_)
        rcases old_new y hy0 hyk with h | h
        · rw [h] at e1
          cases e1
        · exact h (by rw [hv', e1])
    · exact absurd (hxk.trans hyk.symm) hne
  · intro No hsh hno es3 clock3 hb3 y hy g hyg
    obtain ⟨rfl, rfl⟩ : es2 = es3 ∧ clock2 = clock3 := by rw [heap_setBlock_same hb1] at hb3; simpa using hb3
    rcases hwho y hy with ⟨hy0, _⟩ | ⟨_, hval⟩
    · exact hsh es clock hb y hy0 g hyg
    · exact hno g (hval ▸ hyg)
end

/-! The keys: three bytes. -/
theorem Tryd.laidOutD : laidOutB Tryd.prog = true := by kernel_rfl
theorem Tryd.rowTri : 101 < Tryd.prog.types.size := of_decide_eq_true (show decide (101 < Tryd.prog.types.size) = true by kernel_rfl)
theorem Tryd.wideTri : (match Tryd.prog.underlying 101 with | some (.array _ _) | some (.struct _) => true | _ => false) = true := by kernel_rfl
theorem Tryd.keyTri : Tryd.prog.keyTypeAt 2 101 = true := by kernel_rfl
set_option maxRecDepth 20000 in
theorem triLaw : KeyLaw Tryd.prog 101 := deep_law_laid Tryd.laidOutD (m := 2) (by omega) Tryd.rowTri Tryd.keyTri Tryd.wideTri
theorem triKeyed : Keyed Tryd.prog 101 := Keyed.of_law triLaw
def triV (a b c : Int) : Value := .agg #[.int .u8 a, .int .u8 b, .int .u8 c]
theorem zeroInts (u : World) : (zeroValue 57).run Tryd.prog u = .ok (.slice none 0 0) u := by kernel_rfl
theorem triKey {a b c : Int} (ha : 0 ≤ a ∧ a ≤ 255) (hb : 0 ≤ b ∧ b ≤ 255) (hc : 0 ≤ c ∧ c ≤ 255) : ∃ kl, keyOf Tryd.prog 101 (triV a b c) = some kl := by
  have hs : Tryd.prog.types.size = (Tryd.prog.types.size - 1) + 1 := by kernel_rfl
  have hk : Tryd.prog.keyType 101 = true := by kernel_rfl
  have hc3 : Tryd.prog.cellsOf 101 = 3 := by kernel_rfl
  have hc1 : Tryd.prog.cellsOf 5 = 1 := by kernel_rfl
  have w8 : ∀ {x : Int}, 0 ≤ x ∧ x ≤ 255 → (Lit.int .u8 x).wf = true := fun {x} h => WalkArith.wf_u8 h
  generalize Tryd.prog.types.size - 1 = d at hs
  unfold keyOf
  rw [hs]
  simp [Tryd.underlying101, hk, hc3, triV, Value.formed, Value.cells, Program.keyLits, hc1, Tryd.underlying5, w8 ha, w8 hb, w8 hc, List.range_succ]
theorem triV_inj {a b c a' b' c' : Int} (h : triV a b c = triV a' b' c') : a = a' ∧ b = b' ∧ c = c' := by
  simpa [triV] using h
end Go.Proofs.YtalkeooejobjhaaDoor
