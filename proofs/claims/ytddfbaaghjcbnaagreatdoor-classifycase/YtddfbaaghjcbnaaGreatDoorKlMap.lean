/-
  The sets that package classify looks words up in: the maps that its functions make, and what they say of any text. Conditions: none.
-/
import Derived.Test.YtddfbaaghjcbnaaGreatDoorKlLf
import Derived.Carry
import Derived.MapKept
namespace Go.Proofs.YtddfbaaghjcbnaaGreatDoor
open Go.RowKit
set_option linter.unusedVariables false
set_option linter.unusedSimpArgs false

theorem set_last (w : World) (a b : Obj) : { w.alloc a with heap := (w.alloc a).heap.setIfInBounds w.heap.size b } = w.alloc b := by
  show { w with heap := (w.heap.push a).setIfInBounds w.heap.size b } = { w with heap := w.heap.push b }
  congr 1
  apply Array.ext'
  rw [Array.toList_setIfInBounds, Array.toList_push, Array.toList_push]
  simp [List.set_append]
/-- The entries of a set that was made of some texts, one behind the other. -/
def mE (ks : List ByteArray) : Array MapEntry := (ks.zipIdx.map fun p => (⟨.string p.1, .agg #[], p.2⟩ : MapEntry)).toArray
theorem mE_snoc (ks : List ByteArray) (k : ByteArray) : mE (ks ++ [k]) = (mE ks).push ⟨.string k, .agg #[], ks.length⟩ := by
  unfold mE
  rw [List.zipIdx_append, List.map_append]
  simp
theorem mE_key (ks : List ByteArray) : ∀ x ∈ (mE ks).toList, MapKept.IsKey .string x.key := by
  intro x hx
  simp only [mE, List.mem_map] at hx
  obtain ⟨p, _, rfl⟩ := hx
  trivial
theorem memB_iff (ks : List ByteArray) (t : ByteArray) : memB ks t = true ↔ t ∈ ks := by simp [memB]
theorem mE_find (ks : List ByteArray) (t : ByteArray) : ∃ r, Instr.findNow .string (.string t) (mE ks).toList 0 = some r ∧ r.isSome = memB ks t ∧ ∀ x, r = some x → x.2 = .agg #[] := by
  rcases MapKept.findNow_spec (d := .string) (k := .string t) trivial (mE ks).toList 0 (mE_key ks) with ⟨h1, h2⟩ | ⟨j, e, h1, h2, h3⟩
  · refine ⟨none, h1, ?_, fun x hx => by cases hx⟩
    cases hm : memB ks t with
    | false => rfl
    | true =>
      exfalso
      obtain ⟨i, hi, he⟩ := List.getElem_of_mem ((memB_iff ks t).1 hm)
      refine h2 ⟨.string t, .agg #[], i⟩ ?_ rfl
      simp only [mE, List.mem_map]
      exact ⟨(t, i), by rw [← he]; exact List.mem_zipIdx_iff_getElem?.2 (by simp [hi]), rfl⟩
  · refine ⟨_, h1, ?_, ?_⟩
    · have hm := List.mem_of_getElem? h2
      simp only [mE, List.mem_map] at hm
      obtain ⟨p, hp, rfl⟩ := hm
      have : t ∈ ks := by
        have e : p.1 = t := by simpa using h3
        rw [← e]
        exact List.fst_mem_of_mem_zipIdx hp
      rw [(memB_iff ks t).2 this]
      rfl
    · intro x hx
      cases hx
      have hm := List.mem_of_getElem? h2
      simp only [mE, List.mem_map] at hm
      obtain ⟨p, hp, rfl⟩ := hm
      rfl
theorem mE_none (ks : List ByteArray) (t : ByteArray) (h : memB ks t = false) : Instr.findNow .string (.string t) (mE ks).toList 0 = some none := by
  obtain ⟨r, h1, h2, _⟩ := mE_find ks t
  rw [h] at h2
  cases r with
  | none => exact h1
  | some x => cases h2
theorem run_insS (ks : List ByteArray) (k : ByteArray) (w : World) (hk : memB ks k = false) :
    (Instr.mapUpdate 46 (.map (some w.heap.size)) (.string k) (.agg #[])).run Tryz.prog (w.alloc (.map (mE ks) ks.length)) = .ok () (w.alloc (.map (mE (ks ++ [k])) (ks.length + 1))) := by
  have hb : (w.alloc (.map (mE ks) ks.length)).heap[w.heap.size]? = some (.map (mE ks) ks.length) := heap_alloc_new w _
  rw [mE_snoc]
  unfold Instr.mapUpdate
  simp only [Sem.run_bind, run_underlying Tryz.underlying46, Result.andThen_ok, MapKept.run_getObj_map hb, MapKept.run_checkKey Tryz.underlying9 (show MapKept.IsKey .string (.string k) from trivial) false 9999, MapKept.run_findKey Tryz.underlying9 (mE_none ks k hk), MapKept.run_setObj_map _ hb, set_last]
/-- A set, in block g. -/
def Mp (g : Nat) (ks : List ByteArray) (w : World) : Prop := w.heap[g]? = some (.map (mE ks) ks.length)
theorem Mp.lt {g : Nat} {ks : List ByteArray} {w : World} (h : Mp g ks w) : g < w.heap.size := (Array.getElem?_eq_some_iff.1 h).1
theorem Mp.below {g D : Nat} {ks : List ByteArray} {w w' : World} (h : Mp g ks w) (hb : Below D w w') (hg : g < D) : Mp g ks w' := by
  unfold Mp
  rw [hb.block g hg]
  exact h
theorem Mp.later {g : Nat} {ks : List ByteArray} {w w' : World} (h : Mp g ks w) (hb : Below w.heap.size w w') : Mp g ks w' := h.below hb h.lt
theorem Mp.of {g : Nat} {ks : List ByteArray} {w : World} (h : w.heap[g]? = some (.map (mE ks) ks.length)) : Mp g ks w := h
theorem run_lookS (g : Nat) (ks : List ByteArray) (t : ByteArray) (w : World) (h : Mp g ks w) (b : Bool) (hb : memB ks t = b) :
    (Instr.lookup 46 (.map (some g)) (.string t) true).run Tryz.prog w = .ok (.tuple #[.agg #[], .bool b]) w := by
  have hz : (zeroValue 84).run Tryz.prog w = .ok (.agg #[]) w := by kernel_rfl
  obtain ⟨r, h1, h2, h3⟩ := mE_find ks t
  have h' : w.heap[g]? = some (.map (mE ks) ks.length) := h
  rw [hb] at h2
  subst h2
  unfold Instr.lookup
  cases r with
  | none => simp only [Sem.run_bind, Sem.run_pure, run_underlying Tryz.underlying46, Result.andThen_ok, MapKept.run_getObj_map h', MapKept.run_checkKey Tryz.underlying9 (show MapKept.IsKey .string (.string t) from trivial) (mE ks).isEmpty 9999, MapKept.run_findKey Tryz.underlying9 h1, hz, if_true, Option.isSome]
  | some x =>
    have := h3 x rfl
    simp only [Sem.run_bind, Sem.run_pure, run_underlying Tryz.underlying46, Result.andThen_ok, MapKept.run_getObj_map h', MapKept.run_checkKey Tryz.underlying9 (show MapKept.IsKey .string (.string t) from trivial) (mE ks).isEmpty 9999, MapKept.run_findKey Tryz.underlying9 h1, if_true, Option.isSome, this]

set_option maxHeartbeats 2000000 in
set_option maxRecDepth 20000 in
theorem oddNames_any (w : World) : Calls Tryz.prog 31 #[] w fun e w' => e = .returned (.map (some w.heap.size)) ∧ Mp w.heap.size kOdd w' ∧ Below w.heap.size w w' := by
  have hmm := @run_makeMap Tryz.prog
  have u0 : (Instr.mapUpdate 46 (.map (some w.heap.size)) (.string (⟨#[108, 97, 115, 116, 95, 105, 110, 115, 101, 114, 116, 95, 105, 100]⟩ : ByteArray)) (.agg #[])).run Tryz.prog (w.alloc (.map (#[]) 0)) = .ok () (w.alloc (.map (mE (kOdd.take 1)) 1)) := run_insS (kOdd.take 0) _ w (by decide +kernel)
  have u1 : (Instr.mapUpdate 46 (.map (some w.heap.size)) (.string (⟨#[102, 111, 117, 110, 100, 95, 114, 111, 119, 115]⟩ : ByteArray)) (.agg #[])).run Tryz.prog (w.alloc (.map (mE (kOdd.take 1)) 1)) = .ok () (w.alloc (.map (mE (kOdd.take 2)) 2)) := run_insS (kOdd.take 1) _ w (by decide +kernel)
  have u2 : (Instr.mapUpdate 46 (.map (some w.heap.size)) (.string (⟨#[114, 111, 119, 95, 99, 111, 117, 110, 116]⟩ : ByteArray)) (.agg #[])).run Tryz.prog (w.alloc (.map (mE (kOdd.take 2)) 2)) = .ok () (w.alloc (.map (mE (kOdd.take 3)) 3)) := run_insS (kOdd.take 2) _ w (by decide +kernel)
  have u3 : (Instr.mapUpdate 46 (.map (some w.heap.size)) (.string (⟨#[99, 111, 110, 110, 101, 99, 116, 105, 111, 110, 95, 105, 100]⟩ : ByteArray)) (.agg #[])).run Tryz.prog (w.alloc (.map (mE (kOdd.take 3)) 3)) = .ok () (w.alloc (.map (mE (kOdd.take 4)) 4)) := run_insS (kOdd.take 3) _ w (by decide +kernel)
  have u4 : (Instr.mapUpdate 46 (.map (some w.heap.size)) (.string (⟨#[103, 101, 116, 95, 100, 105, 97, 103, 110, 111, 115, 116, 105, 99, 115]⟩ : ByteArray)) (.agg #[])).run Tryz.prog (w.alloc (.map (mE (kOdd.take 4)) 4)) = .ok () (w.alloc (.map (mE (kOdd.take 5)) 5)) := run_insS (kOdd.take 4) _ w (by decide +kernel)
  have u5 : (Instr.mapUpdate 46 (.map (some w.heap.size)) (.string (⟨#[119, 97, 114, 110, 105, 110, 103, 115]⟩ : ByteArray)) (.agg #[])).run Tryz.prog (w.alloc (.map (mE (kOdd.take 5)) 5)) = .ok () (w.alloc (.map (mE (kOdd.take 6)) 6)) := run_insS (kOdd.take 5) _ w (by decide +kernel)
  have u6 : (Instr.mapUpdate 46 (.map (some w.heap.size)) (.string (⟨#[101, 114, 114, 111, 114, 115]⟩ : ByteArray)) (.agg #[])).run Tryz.prog (w.alloc (.map (mE (kOdd.take 6)) 6)) = .ok () (w.alloc (.map (mE (kOdd.take 7)) 7)) := run_insS (kOdd.take 6) _ w (by decide +kernel)
  have u7 : (Instr.mapUpdate 46 (.map (some w.heap.size)) (.string (⟨#[112, 114, 111, 102, 105, 108, 101]⟩ : ByteArray)) (.agg #[])).run Tryz.prog (w.alloc (.map (mE (kOdd.take 7)) 7)) = .ok () (w.alloc (.map (mE (kOdd.take 8)) 8)) := run_insS (kOdd.take 7) _ w (by decide +kernel)
  have u8 : (Instr.mapUpdate 46 (.map (some w.heap.size)) (.string (⟨#[112, 114, 111, 102, 105, 108, 101, 115]⟩ : ByteArray)) (.agg #[])).run Tryz.prog (w.alloc (.map (mE (kOdd.take 8)) 8)) = .ok () (w.alloc (.map (mE (kOdd.take 9)) 9)) := run_insS (kOdd.take 8) _ w (by decide +kernel)
  have u9 : (Instr.mapUpdate 46 (.map (some w.heap.size)) (.string (⟨#[105, 110, 116, 111]⟩ : ByteArray)) (.agg #[])).run Tryz.prog (w.alloc (.map (mE (kOdd.take 9)) 9)) = .ok () (w.alloc (.map (mE (kOdd.take 10)) 10)) := run_insS (kOdd.take 9) _ w (by decide +kernel)
  have u10 : (Instr.mapUpdate 46 (.map (some w.heap.size)) (.string (⟨#[111, 117, 116, 102, 105, 108, 101]⟩ : ByteArray)) (.agg #[])).run Tryz.prog (w.alloc (.map (mE (kOdd.take 10)) 10)) = .ok () (w.alloc (.map (mE (kOdd.take 11)) 11)) := run_insS (kOdd.take 10) _ w (by decide +kernel)
  have u11 : (Instr.mapUpdate 46 (.map (some w.heap.size)) (.string (⟨#[100, 117, 109, 112, 102, 105, 108, 101]⟩ : ByteArray)) (.agg #[])).run Tryz.prog (w.alloc (.map (mE (kOdd.take 11)) 11)) = .ok () (w.alloc (.map (mE (kOdd.take 12)) 12)) := run_insS (kOdd.take 11) _ w (by decide +kernel)
  have u12 : (Instr.mapUpdate 46 (.map (some w.heap.size)) (.string (⟨#[112, 114, 101, 112, 97, 114, 101]⟩ : ByteArray)) (.agg #[])).run Tryz.prog (w.alloc (.map (mE (kOdd.take 12)) 12)) = .ok () (w.alloc (.map (mE (kOdd.take 13)) 13)) := run_insS (kOdd.take 12) _ w (by decide +kernel)
  have u13 : (Instr.mapUpdate 46 (.map (some w.heap.size)) (.string (⟨#[101, 120, 101, 99, 117, 116, 101]⟩ : ByteArray)) (.agg #[])).run Tryz.prog (w.alloc (.map (mE (kOdd.take 13)) 13)) = .ok () (w.alloc (.map (mE (kOdd.take 14)) 14)) := run_insS (kOdd.take 13) _ w (by decide +kernel)
  have u14 : (Instr.mapUpdate 46 (.map (some w.heap.size)) (.string (⟨#[100, 101, 97, 108, 108, 111, 99, 97, 116, 101]⟩ : ByteArray)) (.agg #[])).run Tryz.prog (w.alloc (.map (mE (kOdd.take 14)) 14)) = .ok () (w.alloc (.map (mE (kOdd.take 15)) 15)) := run_insS (kOdd.take 14) _ w (by decide +kernel)
  have u15 : (Instr.mapUpdate 46 (.map (some w.heap.size)) (.string (⟨#[104, 97, 110, 100, 108, 101, 114]⟩ : ByteArray)) (.agg #[])).run Tryz.prog (w.alloc (.map (mE (kOdd.take 15)) 15)) = .ok () (w.alloc (.map (mE (kOdd.take 16)) 16)) := run_insS (kOdd.take 15) _ w (by decide +kernel)
  have u16 : (Instr.mapUpdate 46 (.map (some w.heap.size)) (.string (⟨#[99, 97, 108, 108]⟩ : ByteArray)) (.agg #[])).run Tryz.prog (w.alloc (.map (mE (kOdd.take 16)) 16)) = .ok () (w.alloc (.map (mE (kOdd.take 17)) 17)) := run_insS (kOdd.take 16) _ w (by decide +kernel)
  have u17 : (Instr.mapUpdate 46 (.map (some w.heap.size)) (.string (⟨#[120, 97]⟩ : ByteArray)) (.agg #[])).run Tryz.prog (w.alloc (.map (mE (kOdd.take 17)) 17)) = .ok () (w.alloc (.map (mE (kOdd.take 18)) 18)) := run_insS (kOdd.take 17) _ w (by decide +kernel)
  have u18 : (Instr.mapUpdate 46 (.map (some w.heap.size)) (.string (⟨#[100, 111]⟩ : ByteArray)) (.agg #[])).run Tryz.prog (w.alloc (.map (mE (kOdd.take 18)) 18)) = .ok () (w.alloc (.map (mE (kOdd.take 19)) 19)) := run_insS (kOdd.take 18) _ w (by decide +kernel)
  have u19 : (Instr.mapUpdate 46 (.map (some w.heap.size)) (.string (⟨#[115, 113, 108, 95, 99, 97, 108, 99, 95, 102, 111, 117, 110, 100, 95, 114, 111, 119, 115]⟩ : ByteArray)) (.agg #[])).run Tryz.prog (w.alloc (.map (mE (kOdd.take 19)) 19)) = .ok () (w.alloc (.map (mE (kOdd.take 20)) 20)) := run_insS (kOdd.take 19) _ w (by decide +kernel)
  have B := hide (below_alloc w (.map (mE (kOdd.take 20)) 20))
  have N := hide (heap_alloc_new w (.map (mE (kOdd.take 20)) 20))
  go_enter Tryz.func31, Tryz.ntmps31
  go_wp2_with fail
  go_ret
  exact ⟨rfl, unhide N, unhide B⟩

set_option maxHeartbeats 2000000 in
set_option maxRecDepth 20000 in
theorem lockingNames_any (w : World) : Calls Tryz.prog 32 #[] w fun e w' => e = .returned (.map (some w.heap.size)) ∧ Mp w.heap.size kLock w' ∧ Below w.heap.size w w' := by
  have hmm := @run_makeMap Tryz.prog
  have u0 : (Instr.mapUpdate 46 (.map (some w.heap.size)) (.string (⟨#[103, 101, 116, 95, 108, 111, 99, 107]⟩ : ByteArray)) (.agg #[])).run Tryz.prog (w.alloc (.map (#[]) 0)) = .ok () (w.alloc (.map (mE (kLock.take 1)) 1)) := run_insS (kLock.take 0) _ w (by decide +kernel)
  have u1 : (Instr.mapUpdate 46 (.map (some w.heap.size)) (.string (⟨#[105, 115, 95, 117, 115, 101, 100, 95, 108, 111, 99, 107]⟩ : ByteArray)) (.agg #[])).run Tryz.prog (w.alloc (.map (mE (kLock.take 1)) 1)) = .ok () (w.alloc (.map (mE (kLock.take 2)) 2)) := run_insS (kLock.take 1) _ w (by decide +kernel)
  have u2 : (Instr.mapUpdate 46 (.map (some w.heap.size)) (.string (⟨#[105, 115, 95, 102, 114, 101, 101, 95, 108, 111, 99, 107]⟩ : ByteArray)) (.agg #[])).run Tryz.prog (w.alloc (.map (mE (kLock.take 2)) 2)) = .ok () (w.alloc (.map (mE (kLock.take 3)) 3)) := run_insS (kLock.take 2) _ w (by decide +kernel)
  have u3 : (Instr.mapUpdate 46 (.map (some w.heap.size)) (.string (⟨#[114, 101, 108, 101, 97, 115, 101, 95, 108, 111, 99, 107]⟩ : ByteArray)) (.agg #[])).run Tryz.prog (w.alloc (.map (mE (kLock.take 3)) 3)) = .ok () (w.alloc (.map (mE (kLock.take 4)) 4)) := run_insS (kLock.take 3) _ w (by decide +kernel)
  have u4 : (Instr.mapUpdate 46 (.map (some w.heap.size)) (.string (⟨#[114, 101, 108, 101, 97, 115, 101, 95, 97, 108, 108, 95, 108, 111, 99, 107, 115]⟩ : ByteArray)) (.agg #[])).run Tryz.prog (w.alloc (.map (mE (kLock.take 4)) 4)) = .ok () (w.alloc (.map (mE (kLock.take 5)) 5)) := run_insS (kLock.take 4) _ w (by decide +kernel)
  have B := hide (below_alloc w (.map (mE (kLock.take 5)) 5))
  have N := hide (heap_alloc_new w (.map (mE (kLock.take 5)) 5))
  go_enter Tryz.func32, Tryz.ntmps32
  go_wp2_with fail
  go_ret
  exact ⟨rfl, unhide N, unhide B⟩

set_option maxHeartbeats 2000000 in
set_option maxRecDepth 20000 in
theorem specialNames_any (w : World) : Calls Tryz.prog 33 #[] w fun e w' => e = .returned (.map (some w.heap.size)) ∧ Mp w.heap.size kSpec w' ∧ Below w.heap.size w w' := by
  have hmm := @run_makeMap Tryz.prog
  have u0 : (Instr.mapUpdate 46 (.map (some w.heap.size)) (.string (⟨#[97, 117, 116, 111, 99, 111, 109, 109, 105, 116]⟩ : ByteArray)) (.agg #[])).run Tryz.prog (w.alloc (.map (#[]) 0)) = .ok () (w.alloc (.map (mE (kSpec.take 1)) 1)) := run_insS (kSpec.take 0) _ w (by decide +kernel)
  have u1 : (Instr.mapUpdate 46 (.map (some w.heap.size)) (.string (⟨#[116, 114, 97, 110, 115, 97, 99, 116, 105, 111, 110]⟩ : ByteArray)) (.agg #[])).run Tryz.prog (w.alloc (.map (mE (kSpec.take 1)) 1)) = .ok () (w.alloc (.map (mE (kSpec.take 2)) 2)) := run_insS (kSpec.take 1) _ w (by decide +kernel)
  have u2 : (Instr.mapUpdate 46 (.map (some w.heap.size)) (.string (⟨#[112, 97, 115, 115, 119, 111, 114, 100]⟩ : ByteArray)) (.agg #[])).run Tryz.prog (w.alloc (.map (mE (kSpec.take 2)) 2)) = .ok () (w.alloc (.map (mE (kSpec.take 3)) 3)) := run_insS (kSpec.take 2) _ w (by decide +kernel)
  have u3 : (Instr.mapUpdate 46 (.map (some w.heap.size)) (.string (⟨#[114, 111, 108, 101]⟩ : ByteArray)) (.agg #[])).run Tryz.prog (w.alloc (.map (mE (kSpec.take 3)) 3)) = .ok () (w.alloc (.map (mE (kSpec.take 4)) 4)) := run_insS (kSpec.take 3) _ w (by decide +kernel)
  have B := hide (below_alloc w (.map (mE (kSpec.take 4)) 4))
  have N := hide (heap_alloc_new w (.map (mE (kSpec.take 4)) 4))
  go_enter Tryz.func33, Tryz.ntmps33
  go_wp2_with fail
  go_ret
  exact ⟨rfl, unhide N, unhide B⟩

set_option maxHeartbeats 2000000 in
set_option maxRecDepth 20000 in
theorem writingNames_any (w : World) : Calls Tryz.prog 34 #[] w fun e w' => e = .returned (.map (some w.heap.size)) ∧ Mp w.heap.size kWrit w' ∧ Below w.heap.size w w' := by
  have hmm := @run_makeMap Tryz.prog
  have u0 : (Instr.mapUpdate 46 (.map (some w.heap.size)) (.string (⟨#[105, 110, 115, 101, 114, 116]⟩ : ByteArray)) (.agg #[])).run Tryz.prog (w.alloc (.map (#[]) 0)) = .ok () (w.alloc (.map (mE (kWrit.take 1)) 1)) := run_insS (kWrit.take 0) _ w (by decide +kernel)
  have u1 : (Instr.mapUpdate 46 (.map (some w.heap.size)) (.string (⟨#[117, 112, 100, 97, 116, 101]⟩ : ByteArray)) (.agg #[])).run Tryz.prog (w.alloc (.map (mE (kWrit.take 1)) 1)) = .ok () (w.alloc (.map (mE (kWrit.take 2)) 2)) := run_insS (kWrit.take 1) _ w (by decide +kernel)
  have u2 : (Instr.mapUpdate 46 (.map (some w.heap.size)) (.string (⟨#[100, 101, 108, 101, 116, 101]⟩ : ByteArray)) (.agg #[])).run Tryz.prog (w.alloc (.map (mE (kWrit.take 2)) 2)) = .ok () (w.alloc (.map (mE (kWrit.take 3)) 3)) := run_insS (kWrit.take 2) _ w (by decide +kernel)
  have u3 : (Instr.mapUpdate 46 (.map (some w.heap.size)) (.string (⟨#[114, 101, 112, 108, 97, 99, 101]⟩ : ByteArray)) (.agg #[])).run Tryz.prog (w.alloc (.map (mE (kWrit.take 3)) 3)) = .ok () (w.alloc (.map (mE (kWrit.take 4)) 4)) := run_insS (kWrit.take 3) _ w (by decide +kernel)
  have u4 : (Instr.mapUpdate 46 (.map (some w.heap.size)) (.string (⟨#[99, 114, 101, 97, 116, 101]⟩ : ByteArray)) (.agg #[])).run Tryz.prog (w.alloc (.map (mE (kWrit.take 4)) 4)) = .ok () (w.alloc (.map (mE (kWrit.take 5)) 5)) := run_insS (kWrit.take 4) _ w (by decide +kernel)
  have u5 : (Instr.mapUpdate 46 (.map (some w.heap.size)) (.string (⟨#[100, 114, 111, 112]⟩ : ByteArray)) (.agg #[])).run Tryz.prog (w.alloc (.map (mE (kWrit.take 5)) 5)) = .ok () (w.alloc (.map (mE (kWrit.take 6)) 6)) := run_insS (kWrit.take 5) _ w (by decide +kernel)
  have u6 : (Instr.mapUpdate 46 (.map (some w.heap.size)) (.string (⟨#[97, 108, 116, 101, 114]⟩ : ByteArray)) (.agg #[])).run Tryz.prog (w.alloc (.map (mE (kWrit.take 6)) 6)) = .ok () (w.alloc (.map (mE (kWrit.take 7)) 7)) := run_insS (kWrit.take 6) _ w (by decide +kernel)
  have u7 : (Instr.mapUpdate 46 (.map (some w.heap.size)) (.string (⟨#[116, 114, 117, 110, 99, 97, 116, 101]⟩ : ByteArray)) (.agg #[])).run Tryz.prog (w.alloc (.map (mE (kWrit.take 7)) 7)) = .ok () (w.alloc (.map (mE (kWrit.take 8)) 8)) := run_insS (kWrit.take 7) _ w (by decide +kernel)
  have u8 : (Instr.mapUpdate 46 (.map (some w.heap.size)) (.string (⟨#[114, 101, 110, 97, 109, 101]⟩ : ByteArray)) (.agg #[])).run Tryz.prog (w.alloc (.map (mE (kWrit.take 8)) 8)) = .ok () (w.alloc (.map (mE (kWrit.take 9)) 9)) := run_insS (kWrit.take 8) _ w (by decide +kernel)
  have u9 : (Instr.mapUpdate 46 (.map (some w.heap.size)) (.string (⟨#[103, 114, 97, 110, 116]⟩ : ByteArray)) (.agg #[])).run Tryz.prog (w.alloc (.map (mE (kWrit.take 9)) 9)) = .ok () (w.alloc (.map (mE (kWrit.take 10)) 10)) := run_insS (kWrit.take 9) _ w (by decide +kernel)
  have u10 : (Instr.mapUpdate 46 (.map (some w.heap.size)) (.string (⟨#[114, 101, 118, 111, 107, 101]⟩ : ByteArray)) (.agg #[])).run Tryz.prog (w.alloc (.map (mE (kWrit.take 10)) 10)) = .ok () (w.alloc (.map (mE (kWrit.take 11)) 11)) := run_insS (kWrit.take 10) _ w (by decide +kernel)
  have u11 : (Instr.mapUpdate 46 (.map (some w.heap.size)) (.string (⟨#[97, 110, 97, 108, 121, 122, 101]⟩ : ByteArray)) (.agg #[])).run Tryz.prog (w.alloc (.map (mE (kWrit.take 11)) 11)) = .ok () (w.alloc (.map (mE (kWrit.take 12)) 12)) := run_insS (kWrit.take 11) _ w (by decide +kernel)
  have u12 : (Instr.mapUpdate 46 (.map (some w.heap.size)) (.string (⟨#[111, 112, 116, 105, 109, 105, 122, 101]⟩ : ByteArray)) (.agg #[])).run Tryz.prog (w.alloc (.map (mE (kWrit.take 12)) 12)) = .ok () (w.alloc (.map (mE (kWrit.take 13)) 13)) := run_insS (kWrit.take 12) _ w (by decide +kernel)
  have B := hide (below_alloc w (.map (mE (kWrit.take 13)) 13))
  have N := hide (heap_alloc_new w (.map (mE (kWrit.take 13)) 13))
  go_enter Tryz.func34, Tryz.ntmps34
  go_wp2_with fail
  go_ret
  exact ⟨rfl, unhide N, unhide B⟩

set_option maxHeartbeats 2000000 in
set_option maxRecDepth 20000 in
theorem readingNames_any (w : World) : Calls Tryz.prog 35 #[] w fun e w' => e = .returned (.map (some w.heap.size)) ∧ Mp w.heap.size kRead w' ∧ Below w.heap.size w w' := by
  have hmm := @run_makeMap Tryz.prog
  have u0 : (Instr.mapUpdate 46 (.map (some w.heap.size)) (.string (⟨#[115, 101, 108, 101, 99, 116]⟩ : ByteArray)) (.agg #[])).run Tryz.prog (w.alloc (.map (#[]) 0)) = .ok () (w.alloc (.map (mE (kRead.take 1)) 1)) := run_insS (kRead.take 0) _ w (by decide +kernel)
  have u1 : (Instr.mapUpdate 46 (.map (some w.heap.size)) (.string (⟨#[115, 104, 111, 119]⟩ : ByteArray)) (.agg #[])).run Tryz.prog (w.alloc (.map (mE (kRead.take 1)) 1)) = .ok () (w.alloc (.map (mE (kRead.take 2)) 2)) := run_insS (kRead.take 1) _ w (by decide +kernel)
  have u2 : (Instr.mapUpdate 46 (.map (some w.heap.size)) (.string (⟨#[101, 120, 112, 108, 97, 105, 110]⟩ : ByteArray)) (.agg #[])).run Tryz.prog (w.alloc (.map (mE (kRead.take 2)) 2)) = .ok () (w.alloc (.map (mE (kRead.take 3)) 3)) := run_insS (kRead.take 2) _ w (by decide +kernel)
  have u3 : (Instr.mapUpdate 46 (.map (some w.heap.size)) (.string (⟨#[100, 101, 115, 99, 114, 105, 98, 101]⟩ : ByteArray)) (.agg #[])).run Tryz.prog (w.alloc (.map (mE (kRead.take 3)) 3)) = .ok () (w.alloc (.map (mE (kRead.take 4)) 4)) := run_insS (kRead.take 3) _ w (by decide +kernel)
  have u4 : (Instr.mapUpdate 46 (.map (some w.heap.size)) (.string (⟨#[100, 101, 115, 99]⟩ : ByteArray)) (.agg #[])).run Tryz.prog (w.alloc (.map (mE (kRead.take 4)) 4)) = .ok () (w.alloc (.map (mE (kRead.take 5)) 5)) := run_insS (kRead.take 4) _ w (by decide +kernel)
  have u5 : (Instr.mapUpdate 46 (.map (some w.heap.size)) (.string (⟨#[116, 97, 98, 108, 101]⟩ : ByteArray)) (.agg #[])).run Tryz.prog (w.alloc (.map (mE (kRead.take 5)) 5)) = .ok () (w.alloc (.map (mE (kRead.take 6)) 6)) := run_insS (kRead.take 5) _ w (by decide +kernel)
  have u6 : (Instr.mapUpdate 46 (.map (some w.heap.size)) (.string (⟨#[118, 97, 108, 117, 101, 115]⟩ : ByteArray)) (.agg #[])).run Tryz.prog (w.alloc (.map (mE (kRead.take 6)) 6)) = .ok () (w.alloc (.map (mE (kRead.take 7)) 7)) := run_insS (kRead.take 6) _ w (by decide +kernel)
  have u7 : (Instr.mapUpdate 46 (.map (some w.heap.size)) (.string (⟨#[119, 105, 116, 104]⟩ : ByteArray)) (.agg #[])).run Tryz.prog (w.alloc (.map (mE (kRead.take 7)) 7)) = .ok () (w.alloc (.map (mE (kRead.take 8)) 8)) := run_insS (kRead.take 7) _ w (by decide +kernel)
  have u8 : (Instr.mapUpdate 46 (.map (some w.heap.size)) (.string (⟨#[115, 97, 118, 101, 112, 111, 105, 110, 116]⟩ : ByteArray)) (.agg #[])).run Tryz.prog (w.alloc (.map (mE (kRead.take 8)) 8)) = .ok () (w.alloc (.map (mE (kRead.take 9)) 9)) := run_insS (kRead.take 8) _ w (by decide +kernel)
  have B := hide (below_alloc w (.map (mE (kRead.take 9)) 9))
  have N := hide (heap_alloc_new w (.map (mE (kRead.take 9)) 9))
  go_enter Tryz.func35, Tryz.ntmps35
  go_wp2_with fail
  go_ret
  exact ⟨rfl, unhide N, unhide B⟩

set_option maxHeartbeats 1000000 in
theorem has_any (g : Nat) (ks : List ByteArray) (t : ByteArray) (w : World) (h : Mp g ks w) : Calls Tryz.prog 85 #[.map (some g), .string t] w fun e w' => e = .returned (.bool (memB ks t)) ∧ Below w.heap.size w w' := by
  have B := hide (below_alloc w (.cells #[] 84))
  have u := run_lookS g ks t w h _ rfl
  generalize memB ks t = b at *
  clear h
  go_enter Tryz.func85, Tryz.ntmps85
  go_wp2_with fail
  go_ret
  exact ⟨rfl, unhide B⟩

set_option maxHeartbeats 1000000 in
theorem hasName_any (g : Nat) (ks : List ByteArray) (p : Wd) (w : World) (h : Mp g ks w) : Calls Tryz.prog 43 #[.map (some g), .agg (wdC p)] w fun e w' => e = .returned (.bool (inS ks p)) ∧ Below w.heap.size w w' := by
  have b1 := below_alloc w (.cells (wdC p) 35)
  obtain ⟨pk, ptx, pa⟩ := p
  have r1 : AtW _ _ _ _ := AtW.of_row (heap_alloc_new w (.cells (wdC ⟨pk, ptx, pa⟩) 35))
  have k0 := r1 0 (by decide)
  have k1 := r1 1 (by decide)
  simp only [Nat.zero_add] at k0 k1
  have C := has_any g ks ptx (w.alloc (.cells (wdC ⟨pk, ptx, pa⟩) 35)) (h.later b1)
  unfold wdC at *
  unfold inS
  simp only
  have B1 := hide b1
  generalize memB ks ptx = m at *
  have HC := hide C
  clear b1 r1 C h
  by_cases e1 : pk = 1
  · subst e1
    go_enter Tryz.func43, Tryz.ntmps43
    go_wp2_with (go_at_call 85; refine (unhide HC).mono ?_; rintro e w2 ⟨rfl, b2⟩)
    go_ret
    exact ⟨by simp, belT (unhide B1) b2⟩
  · have e3 : (pk == 1) = false := by simpa using e1
    go_enter Tryz.func43, Tryz.ntmps43
    go_wp2_with fail
    go_ret
    exact ⟨by simp [e1], unhide B1⟩

set_option maxHeartbeats 1000000 in
theorem hasFirst_any (g : Nat) (ks : List ByteArray) (ao : Option Addr) (n c : Nat) (l : List Wd) (w : World) (h : Mp g ks w) (hW : Wds w ao n c l) : Calls Tryz.prog 95 #[.map (some g), .slice ao n c] w fun e w' => e = .returned (.bool (firS ks l)) ∧ Below w.heap.size w w' := by
  have hnl := hW.len
  have hmx := hW.max
  cases l with
  | nil =>
    have hn : n = 0 := by simpa using hnl.symm
    subst hn
    clear hW h hnl
    go_enter Tryz.func95, Tryz.ntmps95
    go_wp2_with fail
    go_ret
    exact ⟨rfl, Below.refl _ _⟩
  | cons p r =>
    have hn : 0 < n := by simp at hnl; omega
    have hn0 : (0 : Int) < (n : Int) := by omega
    obtain ⟨b1, o1, i1, a1⟩ := hW.idx (i := 0) (p := p) rfl 0 rfl
    obtain ⟨pk, ptx, pa⟩ := p
    have q0 := a1.k
    have q1 := a1.t
    have q2 := a1 2 (by decide)
    have cS := hasName_any g ks ⟨pk, ptx, pa⟩ w h
    simp only [wdC] at q0 q1 q2 cS
    show Calls Tryz.prog 95 #[.map (some g), .slice ao n c] w fun e w' => e = .returned (.bool (inS ks ⟨pk, ptx, pa⟩)) ∧ Below w.heap.size w w'
    generalize inS ks ⟨pk, ptx, pa⟩ = m at *
    have C := hide cS
    clear h hW hnl a1 cS
    go_enter Tryz.func95, Tryz.ntmps95
    go_wp2_with (go_at_call 43; refine (unhide C).mono ?_; rintro e w2 ⟨rfl, b2⟩)
    go_ret
    exact ⟨rfl, b2⟩

/-- The five sets, as they lie in memory. -/
structure Sts (cs : Array Value) (w : World) : Prop where
  ex : ∃ g1 g2 g3 g4 g5, cs = #[.map (some g1), .map (some g2), .map (some g3), .map (some g4), .map (some g5)] ∧ Mp g1 kOdd w ∧ Mp g2 kLock w ∧ Mp g3 kSpec w ∧ Mp g4 kWrit w ∧ Mp g5 kRead w
theorem Sts.later {cs : Array Value} {w w' : World} (h : Sts cs w) (hb : Below w.heap.size w w') : Sts cs w' := by
  obtain ⟨g1, g2, g3, g4, g5, e, h1, h2, h3, h4, h5⟩ := h.ex
  exact ⟨g1, g2, g3, g4, g5, e, h1.later hb, h2.later hb, h3.later hb, h4.later hb, h5.later hb⟩

def Zst : Array Value := #[.map none, .map none, .map none, .map none, .map none]
theorem zeroSt (w : World) : (zeroValue 48).run Tryz.prog w = .ok (.agg Zst) w := by kernel_rfl
theorem st_info (a b c d e : Value) : (Tryz.prog.info? 48).map (·.size) = some (#[a, b, c, d, e] : Array Value).size := by
  rw [show (#[a, b, c, d, e] : Array Value).size = 5 from rfl]
  kernel_rfl
theorem st_size {a b c d e : Value} : Zst.size = (#[a, b, c, d, e] : Array Value).size := rfl
theorem st_one (a b c d e : Nat) : (#[.map (some a), .map (some b), .map (some c), .map (some d), .map (some e)] : Array Value).all (·.oneCell') = true := by simp [Value.oneCell']
theorem row_later {g : Nat} {o : Obj} {w w' : World} (h : w.heap[g]? = some o) (hb : Below w.heap.size w w') : w'.heap[g]? = some o := (hb.block g (Array.getElem?_eq_some_iff.1 h).1).trans h
theorem Mp.gb {g k : Nat} {ks : List ByteArray} {w w' : World} (h : Mp g ks w) (hb : Gb k w w') (hk : g ≠ k) : Mp g ks w' := by
  unfold Mp
  rw [hb.block g h.lt hk]
  exact h

set_option maxHeartbeats 1000000 in
theorem newSets_any (w : World) : Calls Tryz.prog 12 #[] w fun e w' => ∃ cs, e = .returned (.agg cs) ∧ Sts cs w' ∧ Below w.heap.size w w' := by
  have H1 := hide oddNames_any
  have H2 := hide lockingNames_any
  have H3 := hide specialNames_any
  have H4 := hide writingNames_any
  have H5 := hide readingNames_any
  go_enter Tryz.func12, Tryz.ntmps12
  go_wp2_with (first | (with_reducible show wpList Tryz.prog _ _ (Oper.mk _ (Op.alloc 48) _ _ _ none :: _) _ _; refine wpList_alK rfl _ rfl Zst zeroSt ?_; intro wz rz bz ez; clear ez) | (go_at_call 31; refine (unhide H1 _).mono ?_; rintro e w1 ⟨rfl, m1, b1⟩) | (go_at_call 32; refine (unhide H2 _).mono ?_; rintro e w2 ⟨rfl, m2, b2⟩) | (go_at_call 33; refine (unhide H3 _).mono ?_; rintro e w3 ⟨rfl, m3, b3⟩) | (go_at_call 34; refine (unhide H4 _).mono ?_; rintro e w4 ⟨rfl, m4, b4⟩) | (go_at_call 35; refine (unhide H5 _).mono ?_; rintro e w5 ⟨rfl, m5, b5⟩; have r5 := (((row_later rz b1 |> fun x => row_later x b2) |> fun x => row_later x b3) |> fun x => row_later x b4) |> fun x => row_later x b5) | (with_reducible show wpList Tryz.prog _ _ (Oper.mk _ (Op.store 48 _ _) _ _ _ none :: _) _ _; refine wpList_stK rfl _ _ _ rfl w.heap.size #[.map (some wz.heap.size), .map (some w1.heap.size), .map (some w2.heap.size), .map (some w3.heap.size), .map (some w4.heap.size)] Zst (by simp [Act.eval, Act.put]) (by simp [Act.eval, Act.put]) r5 (st_info _ _ _ _ _) st_size (st_one _ _ _ _ _) ?_; intro w9 r9 g9 e9))
  have bx := belT (belT (belT (belT bz b1) b2 |> fun x => x) b3 |> fun x => x) b4 |> fun x => belT x b5
  refine bodyPost_ret (results_cell_row rfl _ _ w.heap.size _ _ _ _ rfl r9 Tryz.underlying48 rfl (st_info _ _ _ _ _)) rfl ⟨_, rfl, ?_, belowG bx g9 (Nat.le_refl _) bx.size⟩
  have l1 := m1.later b2 |> fun x => x.later b3 |> fun x => x.later b4 |> fun x => x.later b5
  have l2 := m2.later b3 |> fun x => x.later b4 |> fun x => x.later b5
  have l3 := m3.later b4 |> fun x => x.later b5
  have l4 := m4.later b5
  have z1 := bz.size
  have zz := (Array.getElem?_eq_some_iff.1 rz).1
  exact ⟨⟨_, _, _, _, _, rfl, l1.gb g9 (by omega), l2.gb g9 (by have := b1.size; omega), l3.gb g9 (by have := b1.size; have := b2.size; omega), l4.gb g9 (by have := b1.size; have := b2.size; have := b3.size; omega), m5.gb g9 (by have := b1.size; have := b2.size; have := b3.size; have := b4.size; omega)⟩⟩

end Go.Proofs.YtddfbaaghjcbnaaGreatDoor
