/-
  The names of the kinds of commands: the map that names makes, and what Name returns for any kind. Conditions: the library's table of powers of ten reads as its initialiser lays it.
-/
import Derived.Test.YtpidlfifipgadaaDoorCmLib
import Derived.Test.YtpidlfifipgadaaDoorShl
import Derived.Carry
import Derived.MapKept
import Derived.Lib.AppendIntMem
import Derived.Lib.ItoaLen
namespace Go.Proofs.YtpidlfifipgadaaDoor
open Go.RowKit
set_option linter.unusedVariables false
set_option linter.unusedSimpArgs false

theorem set_last (w : World) (a b : Obj) : { w.alloc a with heap := (w.alloc a).heap.setIfInBounds w.heap.size b } = w.alloc b := by
  show { w with heap := (w.heap.push a).setIfInBounds w.heap.size b } = { w with heap := w.heap.push b }
  congr 1
  apply Array.ext'
  rw [Array.toList_setIfInBounds, Array.toList_push, Array.toList_push]
  simp [List.set_append]
theorem run_ins (es : Array MapEntry) (c : Nat) (k : Int) (v : Value) (w : World) (hf : Instr.findNow (.int .u8) (.int .u8 k) es.toList 0 = some none) :
    (Instr.mapUpdate 55 (.map (some w.heap.size)) (.int .u8 k) v).run Tryd.prog (w.alloc (.map es c)) = .ok () (w.alloc (.map (es.push ⟨.int .u8 k, v, c⟩) (c + 1))) := by
  have hb : (w.alloc (.map es c)).heap[w.heap.size]? = some (.map es c) := heap_alloc_new w _
  unfold Instr.mapUpdate
  simp only [Sem.run_bind, run_underlying Tryd.underlying55, Result.andThen_ok, MapKept.run_getObj_map hb, MapKept.run_checkKey Tryd.underlying5 (show MapKept.IsKey (.int .u8) (.int .u8 k) from rfl) false 9999, MapKept.run_findKey Tryd.underlying5 hf, MapKept.run_setObj_map _ hb, set_last]
theorem run_look (es : Array MapEntry) (c : Nat) (k : Int) (w : World) (r : Option (Nat × Value)) (hf : Instr.findNow (.int .u8) (.int .u8 k) es.toList 0 = some r) :
    (Instr.lookup 55 (.map (some w.heap.size)) (.int .u8 k) true).run Tryd.prog (w.alloc (.map es c)) = .ok (.tuple #[(match r with | some x => x.2 | none => .agg #[.string ⟨#[]⟩]), .bool r.isSome]) (w.alloc (.map es c)) := by
  have hb : (w.alloc (.map es c)).heap[w.heap.size]? = some (.map es c) := heap_alloc_new w _
  have hz : (zeroValue 53).run Tryd.prog (w.alloc (.map es c)) = .ok (.agg #[.string ⟨#[]⟩]) (w.alloc (.map es c)) := by kernel_rfl
  unfold Instr.lookup
  cases r with
  | none => simp only [Sem.run_bind, Sem.run_pure, run_underlying Tryd.underlying55, Result.andThen_ok, MapKept.run_getObj_map hb, MapKept.run_checkKey Tryd.underlying5 (show MapKept.IsKey (.int .u8) (.int .u8 k) from rfl) es.isEmpty 9999, MapKept.run_findKey Tryd.underlying5 hf, hz, if_true, Option.isSome]
  | some x => simp only [Sem.run_bind, Sem.run_pure, run_underlying Tryd.underlying55, Result.andThen_ok, MapKept.run_getObj_map hb, MapKept.run_checkKey Tryd.underlying5 (show MapKept.IsKey (.int .u8) (.int .u8 k) from rfl) es.isEmpty 9999, MapKept.run_findKey Tryd.underlying5 hf, if_true, Option.isSome]

def nmE1 : Array MapEntry := #[].push ⟨.int .u8 0, .agg #[.string ⟨#[115, 108, 101, 101, 112]⟩], 0⟩
def nmE2 : Array MapEntry := nmE1.push ⟨.int .u8 1, .agg #[.string ⟨#[113, 117, 105, 116]⟩], 1⟩
def nmE3 : Array MapEntry := nmE2.push ⟨.int .u8 2, .agg #[.string ⟨#[105, 110, 105, 116, 45, 100, 98]⟩], 2⟩
def nmE4 : Array MapEntry := nmE3.push ⟨.int .u8 3, .agg #[.string ⟨#[113, 117, 101, 114, 121]⟩], 3⟩
def nmE5 : Array MapEntry := nmE4.push ⟨.int .u8 4, .agg #[.string ⟨#[102, 105, 101, 108, 100, 45, 108, 105, 115, 116]⟩], 4⟩
def nmE6 : Array MapEntry := nmE5.push ⟨.int .u8 5, .agg #[.string ⟨#[99, 114, 101, 97, 116, 101, 45, 100, 98]⟩], 5⟩
def nmE7 : Array MapEntry := nmE6.push ⟨.int .u8 6, .agg #[.string ⟨#[100, 114, 111, 112, 45, 100, 98]⟩], 6⟩
def nmE8 : Array MapEntry := nmE7.push ⟨.int .u8 7, .agg #[.string ⟨#[114, 101, 102, 114, 101, 115, 104]⟩], 7⟩
def nmE9 : Array MapEntry := nmE8.push ⟨.int .u8 9, .agg #[.string ⟨#[115, 116, 97, 116, 105, 115, 116, 105, 99, 115]⟩], 8⟩
def nmE10 : Array MapEntry := nmE9.push ⟨.int .u8 12, .agg #[.string ⟨#[112, 114, 111, 99, 101, 115, 115, 45, 107, 105, 108, 108]⟩], 9⟩
def nmE11 : Array MapEntry := nmE10.push ⟨.int .u8 14, .agg #[.string ⟨#[112, 105, 110, 103]⟩], 10⟩
def nmE12 : Array MapEntry := nmE11.push ⟨.int .u8 17, .agg #[.string ⟨#[99, 104, 97, 110, 103, 101, 45, 117, 115, 101, 114]⟩], 11⟩
def nmE13 : Array MapEntry := nmE12.push ⟨.int .u8 22, .agg #[.string ⟨#[112, 114, 101, 112, 97, 114, 101]⟩], 12⟩
def nmE14 : Array MapEntry := nmE13.push ⟨.int .u8 23, .agg #[.string ⟨#[101, 120, 101, 99, 117, 116, 101]⟩], 13⟩
def nmE15 : Array MapEntry := nmE14.push ⟨.int .u8 24, .agg #[.string ⟨#[108, 111, 110, 103, 45, 100, 97, 116, 97]⟩], 14⟩
def nmE16 : Array MapEntry := nmE15.push ⟨.int .u8 25, .agg #[.string ⟨#[99, 108, 111, 115, 101]⟩], 15⟩
def nmE17 : Array MapEntry := nmE16.push ⟨.int .u8 26, .agg #[.string ⟨#[115, 116, 109, 116, 45, 114, 101, 115, 101, 116]⟩], 16⟩
def nmE18 : Array MapEntry := nmE17.push ⟨.int .u8 27, .agg #[.string ⟨#[115, 101, 116, 45, 111, 112, 116, 105, 111, 110]⟩], 17⟩
def nmE19 : Array MapEntry := nmE18.push ⟨.int .u8 28, .agg #[.string ⟨#[102, 101, 116, 99, 104]⟩], 18⟩
def nmE20 : Array MapEntry := nmE19.push ⟨.int .u8 31, .agg #[.string ⟨#[114, 101, 115, 101, 116]⟩], 19⟩

set_option maxHeartbeats 4000000 in
set_option maxRecDepth 100000 in
theorem names_any (w : World) : Calls Tryd.prog 25 #[] w fun e w' => e = .returned (.map (some w.heap.size)) ∧ w' = w.alloc (.map nmE20 20) := by
  have hmm := @run_makeMap Tryd.prog
  have u0 : (Instr.mapUpdate 55 (.map (some w.heap.size)) (.int .u8 0) (.agg #[.string ⟨#[115, 108, 101, 101, 112]⟩])).run Tryd.prog (w.alloc (.map #[] 0)) = .ok () (w.alloc (.map nmE1 1)) := run_ins #[] 0 0 _ w (by kernel_rfl)
  have u1 : (Instr.mapUpdate 55 (.map (some w.heap.size)) (.int .u8 1) (.agg #[.string ⟨#[113, 117, 105, 116]⟩])).run Tryd.prog (w.alloc (.map nmE1 1)) = .ok () (w.alloc (.map nmE2 2)) := run_ins nmE1 1 1 _ w (by kernel_rfl)
  have u2 : (Instr.mapUpdate 55 (.map (some w.heap.size)) (.int .u8 2) (.agg #[.string ⟨#[105, 110, 105, 116, 45, 100, 98]⟩])).run Tryd.prog (w.alloc (.map nmE2 2)) = .ok () (w.alloc (.map nmE3 3)) := run_ins nmE2 2 2 _ w (by kernel_rfl)
  have u3 : (Instr.mapUpdate 55 (.map (some w.heap.size)) (.int .u8 3) (.agg #[.string ⟨#[113, 117, 101, 114, 121]⟩])).run Tryd.prog (w.alloc (.map nmE3 3)) = .ok () (w.alloc (.map nmE4 4)) := run_ins nmE3 3 3 _ w (by kernel_rfl)
  have u4 : (Instr.mapUpdate 55 (.map (some w.heap.size)) (.int .u8 4) (.agg #[.string ⟨#[102, 105, 101, 108, 100, 45, 108, 105, 115, 116]⟩])).run Tryd.prog (w.alloc (.map nmE4 4)) = .ok () (w.alloc (.map nmE5 5)) := run_ins nmE4 4 4 _ w (by kernel_rfl)
  have u5 : (Instr.mapUpdate 55 (.map (some w.heap.size)) (.int .u8 5) (.agg #[.string ⟨#[99, 114, 101, 97, 116, 101, 45, 100, 98]⟩])).run Tryd.prog (w.alloc (.map nmE5 5)) = .ok () (w.alloc (.map nmE6 6)) := run_ins nmE5 5 5 _ w (by kernel_rfl)
  have u6 : (Instr.mapUpdate 55 (.map (some w.heap.size)) (.int .u8 6) (.agg #[.string ⟨#[100, 114, 111, 112, 45, 100, 98]⟩])).run Tryd.prog (w.alloc (.map nmE6 6)) = .ok () (w.alloc (.map nmE7 7)) := run_ins nmE6 6 6 _ w (by kernel_rfl)
  have u7 : (Instr.mapUpdate 55 (.map (some w.heap.size)) (.int .u8 7) (.agg #[.string ⟨#[114, 101, 102, 114, 101, 115, 104]⟩])).run Tryd.prog (w.alloc (.map nmE7 7)) = .ok () (w.alloc (.map nmE8 8)) := run_ins nmE7 7 7 _ w (by kernel_rfl)
  have u8 : (Instr.mapUpdate 55 (.map (some w.heap.size)) (.int .u8 9) (.agg #[.string ⟨#[115, 116, 97, 116, 105, 115, 116, 105, 99, 115]⟩])).run Tryd.prog (w.alloc (.map nmE8 8)) = .ok () (w.alloc (.map nmE9 9)) := run_ins nmE8 8 9 _ w (by kernel_rfl)
  have u9 : (Instr.mapUpdate 55 (.map (some w.heap.size)) (.int .u8 12) (.agg #[.string ⟨#[112, 114, 111, 99, 101, 115, 115, 45, 107, 105, 108, 108]⟩])).run Tryd.prog (w.alloc (.map nmE9 9)) = .ok () (w.alloc (.map nmE10 10)) := run_ins nmE9 9 12 _ w (by kernel_rfl)
  have u10 : (Instr.mapUpdate 55 (.map (some w.heap.size)) (.int .u8 14) (.agg #[.string ⟨#[112, 105, 110, 103]⟩])).run Tryd.prog (w.alloc (.map nmE10 10)) = .ok () (w.alloc (.map nmE11 11)) := run_ins nmE10 10 14 _ w (by kernel_rfl)
  have u11 : (Instr.mapUpdate 55 (.map (some w.heap.size)) (.int .u8 17) (.agg #[.string ⟨#[99, 104, 97, 110, 103, 101, 45, 117, 115, 101, 114]⟩])).run Tryd.prog (w.alloc (.map nmE11 11)) = .ok () (w.alloc (.map nmE12 12)) := run_ins nmE11 11 17 _ w (by kernel_rfl)
  have u12 : (Instr.mapUpdate 55 (.map (some w.heap.size)) (.int .u8 22) (.agg #[.string ⟨#[112, 114, 101, 112, 97, 114, 101]⟩])).run Tryd.prog (w.alloc (.map nmE12 12)) = .ok () (w.alloc (.map nmE13 13)) := run_ins nmE12 12 22 _ w (by kernel_rfl)
  have u13 : (Instr.mapUpdate 55 (.map (some w.heap.size)) (.int .u8 23) (.agg #[.string ⟨#[101, 120, 101, 99, 117, 116, 101]⟩])).run Tryd.prog (w.alloc (.map nmE13 13)) = .ok () (w.alloc (.map nmE14 14)) := run_ins nmE13 13 23 _ w (by kernel_rfl)
  have u14 : (Instr.mapUpdate 55 (.map (some w.heap.size)) (.int .u8 24) (.agg #[.string ⟨#[108, 111, 110, 103, 45, 100, 97, 116, 97]⟩])).run Tryd.prog (w.alloc (.map nmE14 14)) = .ok () (w.alloc (.map nmE15 15)) := run_ins nmE14 14 24 _ w (by kernel_rfl)
  have u15 : (Instr.mapUpdate 55 (.map (some w.heap.size)) (.int .u8 25) (.agg #[.string ⟨#[99, 108, 111, 115, 101]⟩])).run Tryd.prog (w.alloc (.map nmE15 15)) = .ok () (w.alloc (.map nmE16 16)) := run_ins nmE15 15 25 _ w (by kernel_rfl)
  have u16 : (Instr.mapUpdate 55 (.map (some w.heap.size)) (.int .u8 26) (.agg #[.string ⟨#[115, 116, 109, 116, 45, 114, 101, 115, 101, 116]⟩])).run Tryd.prog (w.alloc (.map nmE16 16)) = .ok () (w.alloc (.map nmE17 17)) := run_ins nmE16 16 26 _ w (by kernel_rfl)
  have u17 : (Instr.mapUpdate 55 (.map (some w.heap.size)) (.int .u8 27) (.agg #[.string ⟨#[115, 101, 116, 45, 111, 112, 116, 105, 111, 110]⟩])).run Tryd.prog (w.alloc (.map nmE17 17)) = .ok () (w.alloc (.map nmE18 18)) := run_ins nmE17 17 27 _ w (by kernel_rfl)
  have u18 : (Instr.mapUpdate 55 (.map (some w.heap.size)) (.int .u8 28) (.agg #[.string ⟨#[102, 101, 116, 99, 104]⟩])).run Tryd.prog (w.alloc (.map nmE18 18)) = .ok () (w.alloc (.map nmE19 19)) := run_ins nmE18 18 28 _ w (by kernel_rfl)
  have u19 : (Instr.mapUpdate 55 (.map (some w.heap.size)) (.int .u8 31) (.agg #[.string ⟨#[114, 101, 115, 101, 116]⟩])).run Tryd.prog (w.alloc (.map nmE19 19)) = .ok () (w.alloc (.map nmE20 20)) := run_ins nmE19 19 31 _ w (by kernel_rfl)
  go_enter Tryd.func25, Tryd.ntmps25
  go_wp2_with fail
  go_ret
  exact ⟨rfl, rfl⟩

/-- The name of a kind. -/
def cmdB : List UInt8 := [99, 111, 109, 109, 97, 110, 100, 45]
def nmS (k : Int) : ByteArray :=
  if k = 0 then ⟨#[115, 108, 101, 101, 112]⟩ else
  if k = 1 then ⟨#[113, 117, 105, 116]⟩ else
  if k = 2 then ⟨#[105, 110, 105, 116, 45, 100, 98]⟩ else
  if k = 3 then ⟨#[113, 117, 101, 114, 121]⟩ else
  if k = 4 then ⟨#[102, 105, 101, 108, 100, 45, 108, 105, 115, 116]⟩ else
  if k = 5 then ⟨#[99, 114, 101, 97, 116, 101, 45, 100, 98]⟩ else
  if k = 6 then ⟨#[100, 114, 111, 112, 45, 100, 98]⟩ else
  if k = 7 then ⟨#[114, 101, 102, 114, 101, 115, 104]⟩ else
  if k = 9 then ⟨#[115, 116, 97, 116, 105, 115, 116, 105, 99, 115]⟩ else
  if k = 12 then ⟨#[112, 114, 111, 99, 101, 115, 115, 45, 107, 105, 108, 108]⟩ else
  if k = 14 then ⟨#[112, 105, 110, 103]⟩ else
  if k = 17 then ⟨#[99, 104, 97, 110, 103, 101, 45, 117, 115, 101, 114]⟩ else
  if k = 22 then ⟨#[112, 114, 101, 112, 97, 114, 101]⟩ else
  if k = 23 then ⟨#[101, 120, 101, 99, 117, 116, 101]⟩ else
  if k = 24 then ⟨#[108, 111, 110, 103, 45, 100, 97, 116, 97]⟩ else
  if k = 25 then ⟨#[99, 108, 111, 115, 101]⟩ else
  if k = 26 then ⟨#[115, 116, 109, 116, 45, 114, 101, 115, 101, 116]⟩ else
  if k = 27 then ⟨#[115, 101, 116, 45, 111, 112, 116, 105, 111, 110]⟩ else
  if k = 28 then ⟨#[102, 101, 116, 99, 104]⟩ else
  if k = 31 then ⟨#[114, 101, 115, 101, 116]⟩ else
  ⟨(cmdB ++ Lib.itoa k).toArray⟩
theorem find_no (k : Int) (h0 : ¬ k = 0) (h1 : ¬ k = 1) (h2 : ¬ k = 2) (h3 : ¬ k = 3) (h4 : ¬ k = 4) (h5 : ¬ k = 5) (h6 : ¬ k = 6) (h7 : ¬ k = 7) (h9 : ¬ k = 9) (h12 : ¬ k = 12) (h14 : ¬ k = 14) (h17 : ¬ k = 17) (h22 : ¬ k = 22) (h23 : ¬ k = 23) (h24 : ¬ k = 24) (h25 : ¬ k = 25) (h26 : ¬ k = 26) (h27 : ¬ k = 27) (h28 : ¬ k = 28) (h31 : ¬ k = 31) : Instr.findNow (.int .u8) (.int .u8 k) nmE20.toList 0 = some none := by
  show Instr.findNow (.int .u8) (.int .u8 k) [⟨.int .u8 0, .agg #[.string ⟨#[115, 108, 101, 101, 112]⟩], 0⟩, ⟨.int .u8 1, .agg #[.string ⟨#[113, 117, 105, 116]⟩], 1⟩, ⟨.int .u8 2, .agg #[.string ⟨#[105, 110, 105, 116, 45, 100, 98]⟩], 2⟩, ⟨.int .u8 3, .agg #[.string ⟨#[113, 117, 101, 114, 121]⟩], 3⟩, ⟨.int .u8 4, .agg #[.string ⟨#[102, 105, 101, 108, 100, 45, 108, 105, 115, 116]⟩], 4⟩, ⟨.int .u8 5, .agg #[.string ⟨#[99, 114, 101, 97, 116, 101, 45, 100, 98]⟩], 5⟩, ⟨.int .u8 6, .agg #[.string ⟨#[100, 114, 111, 112, 45, 100, 98]⟩], 6⟩, ⟨.int .u8 7, .agg #[.string ⟨#[114, 101, 102, 114, 101, 115, 104]⟩], 7⟩, ⟨.int .u8 9, .agg #[.string ⟨#[115, 116, 97, 116, 105, 115, 116, 105, 99, 115]⟩], 8⟩, ⟨.int .u8 12, .agg #[.string ⟨#[112, 114, 111, 99, 101, 115, 115, 45, 107, 105, 108, 108]⟩], 9⟩, ⟨.int .u8 14, .agg #[.string ⟨#[112, 105, 110, 103]⟩], 10⟩, ⟨.int .u8 17, .agg #[.string ⟨#[99, 104, 97, 110, 103, 101, 45, 117, 115, 101, 114]⟩], 11⟩, ⟨.int .u8 22, .agg #[.string ⟨#[112, 114, 101, 112, 97, 114, 101]⟩], 12⟩, ⟨.int .u8 23, .agg #[.string ⟨#[101, 120, 101, 99, 117, 116, 101]⟩], 13⟩, ⟨.int .u8 24, .agg #[.string ⟨#[108, 111, 110, 103, 45, 100, 97, 116, 97]⟩], 14⟩, ⟨.int .u8 25, .agg #[.string ⟨#[99, 108, 111, 115, 101]⟩], 15⟩, ⟨.int .u8 26, .agg #[.string ⟨#[115, 116, 109, 116, 45, 114, 101, 115, 101, 116]⟩], 16⟩, ⟨.int .u8 27, .agg #[.string ⟨#[115, 101, 116, 45, 111, 112, 116, 105, 111, 110]⟩], 17⟩, ⟨.int .u8 28, .agg #[.string ⟨#[102, 101, 116, 99, 104]⟩], 18⟩, ⟨.int .u8 31, .agg #[.string ⟨#[114, 101, 115, 101, 116]⟩], 19⟩] 0 = some none
  have e0 : (k == 0) = false := by simpa using h0
  have e1 : (k == 1) = false := by simpa using h1
  have e2 : (k == 2) = false := by simpa using h2
  have e3 : (k == 3) = false := by simpa using h3
  have e4 : (k == 4) = false := by simpa using h4
  have e5 : (k == 5) = false := by simpa using h5
  have e6 : (k == 6) = false := by simpa using h6
  have e7 : (k == 7) = false := by simpa using h7
  have e9 : (k == 9) = false := by simpa using h9
  have e12 : (k == 12) = false := by simpa using h12
  have e14 : (k == 14) = false := by simpa using h14
  have e17 : (k == 17) = false := by simpa using h17
  have e22 : (k == 22) = false := by simpa using h22
  have e23 : (k == 23) = false := by simpa using h23
  have e24 : (k == 24) = false := by simpa using h24
  have e25 : (k == 25) = false := by simpa using h25
  have e26 : (k == 26) = false := by simpa using h26
  have e27 : (k == 27) = false := by simpa using h27
  have e28 : (k == 28) = false := by simpa using h28
  have e31 : (k == 31) = false := by simpa using h31
  simp only [Instr.findNow, Instr.sameNow, if_true, e0, e1, e2, e3, e4, e5, e6, e7, e9, e12, e14, e17, e22, e23, e24, e25, e26, e27, e28, e31]

theorem cmd_cat (l : List UInt8) : (⟨#[99, 111, 109, 109, 97, 110, 100, 45]⟩ : ByteArray) ++ ⟨l.toArray⟩ = ⟨(cmdB ++ l).toArray⟩ := by
  apply ByteArray.ext
  rw [ByteArray.data_append]
  simp [cmdB]
/-- The table of powers of ten, in whatever comes. -/
def Vars (w : World) : Prop := Lib.TabIs Tryd.prog w "internal/strconv.uint64pow10" .u64 Lib.pow10Tab
theorem Vars.later {w w' : World} (h : Vars w) (hb : Below w.heap.size w w') : Vars w' := Lib.tabBelow_of_tabIs h w' hb
set_option maxHeartbeats 4000000 in
set_option maxRecDepth 100000 in
theorem name_any (k : Int) (w : World) (hv : Vars w) (q0 : 0 ≤ k) (q1 : k ≤ 255) : Calls Tryd.prog 9 #[.int .u8 k] w fun e w' => e = .returned (.string (nmS k)) ∧ Below w.heap.size w w' := by
  have cN := hide (names_any w)
  have b1 := below_alloc w (.map nmE20 20)
  by_cases h0 : k = 0
  · subst h0
    have hl := run_look nmE20 20 0 w (some (0, .agg #[.string ⟨#[115, 108, 101, 101, 112]⟩])) (by kernel_rfl)
    have B1 := hide (b1.alloc (by simp) (.cells #[.string ⟨#[115, 108, 101, 101, 112]⟩] 53))
    clear hv b1
    simp only [Option.isSome] at hl
    go_enter Tryd.func9, Tryd.ntmps9
    go_wp2_with fail
    refine (unhide cN).mono ?_
    rintro e w' ⟨rfl, rfl⟩
    go_wp2_with fail
    go_ret
    exact ⟨rfl, unhide B1⟩
  by_cases h1 : k = 1
  · subst h1
    have hl := run_look nmE20 20 1 w (some (1, .agg #[.string ⟨#[113, 117, 105, 116]⟩])) (by kernel_rfl)
    have B1 := hide (b1.alloc (by simp) (.cells #[.string ⟨#[113, 117, 105, 116]⟩] 53))
    clear hv b1
    simp only [Option.isSome] at hl
    go_enter Tryd.func9, Tryd.ntmps9
    go_wp2_with fail
    refine (unhide cN).mono ?_
    rintro e w' ⟨rfl, rfl⟩
    go_wp2_with fail
    go_ret
    exact ⟨rfl, unhide B1⟩
  by_cases h2 : k = 2
  · subst h2
    have hl := run_look nmE20 20 2 w (some (2, .agg #[.string ⟨#[105, 110, 105, 116, 45, 100, 98]⟩])) (by kernel_rfl)
    have B1 := hide (b1.alloc (by simp) (.cells #[.string ⟨#[105, 110, 105, 116, 45, 100, 98]⟩] 53))
    clear hv b1
    simp only [Option.isSome] at hl
    go_enter Tryd.func9, Tryd.ntmps9
    go_wp2_with fail
    refine (unhide cN).mono ?_
    rintro e w' ⟨rfl, rfl⟩
    go_wp2_with fail
    go_ret
    exact ⟨rfl, unhide B1⟩
  by_cases h3 : k = 3
  · subst h3
    have hl := run_look nmE20 20 3 w (some (3, .agg #[.string ⟨#[113, 117, 101, 114, 121]⟩])) (by kernel_rfl)
    have B1 := hide (b1.alloc (by simp) (.cells #[.string ⟨#[113, 117, 101, 114, 121]⟩] 53))
    clear hv b1
    simp only [Option.isSome] at hl
    go_enter Tryd.func9, Tryd.ntmps9
    go_wp2_with fail
    refine (unhide cN).mono ?_
    rintro e w' ⟨rfl, rfl⟩
    go_wp2_with fail
    go_ret
    exact ⟨rfl, unhide B1⟩
  by_cases h4 : k = 4
  · subst h4
    have hl := run_look nmE20 20 4 w (some (4, .agg #[.string ⟨#[102, 105, 101, 108, 100, 45, 108, 105, 115, 116]⟩])) (by kernel_rfl)
    have B1 := hide (b1.alloc (by simp) (.cells #[.string ⟨#[102, 105, 101, 108, 100, 45, 108, 105, 115, 116]⟩] 53))
    clear hv b1
    simp only [Option.isSome] at hl
    go_enter Tryd.func9, Tryd.ntmps9
    go_wp2_with fail
    refine (unhide cN).mono ?_
    rintro e w' ⟨rfl, rfl⟩
    go_wp2_with fail
    go_ret
    exact ⟨rfl, unhide B1⟩
  by_cases h5 : k = 5
  · subst h5
    have hl := run_look nmE20 20 5 w (some (5, .agg #[.string ⟨#[99, 114, 101, 97, 116, 101, 45, 100, 98]⟩])) (by kernel_rfl)
    have B1 := hide (b1.alloc (by simp) (.cells #[.string ⟨#[99, 114, 101, 97, 116, 101, 45, 100, 98]⟩] 53))
    clear hv b1
    simp only [Option.isSome] at hl
    go_enter Tryd.func9, Tryd.ntmps9
    go_wp2_with fail
    refine (unhide cN).mono ?_
    rintro e w' ⟨rfl, rfl⟩
    go_wp2_with fail
    go_ret
    exact ⟨rfl, unhide B1⟩
  by_cases h6 : k = 6
  · subst h6
    have hl := run_look nmE20 20 6 w (some (6, .agg #[.string ⟨#[100, 114, 111, 112, 45, 100, 98]⟩])) (by kernel_rfl)
    have B1 := hide (b1.alloc (by simp) (.cells #[.string ⟨#[100, 114, 111, 112, 45, 100, 98]⟩] 53))
    clear hv b1
    simp only [Option.isSome] at hl
    go_enter Tryd.func9, Tryd.ntmps9
    go_wp2_with fail
    refine (unhide cN).mono ?_
    rintro e w' ⟨rfl, rfl⟩
    go_wp2_with fail
    go_ret
    exact ⟨rfl, unhide B1⟩
  by_cases h7 : k = 7
  · subst h7
    have hl := run_look nmE20 20 7 w (some (7, .agg #[.string ⟨#[114, 101, 102, 114, 101, 115, 104]⟩])) (by kernel_rfl)
    have B1 := hide (b1.alloc (by simp) (.cells #[.string ⟨#[114, 101, 102, 114, 101, 115, 104]⟩] 53))
    clear hv b1
    simp only [Option.isSome] at hl
    go_enter Tryd.func9, Tryd.ntmps9
    go_wp2_with fail
    refine (unhide cN).mono ?_
    rintro e w' ⟨rfl, rfl⟩
    go_wp2_with fail
    go_ret
    exact ⟨rfl, unhide B1⟩
  by_cases h9 : k = 9
  · subst h9
    have hl := run_look nmE20 20 9 w (some (8, .agg #[.string ⟨#[115, 116, 97, 116, 105, 115, 116, 105, 99, 115]⟩])) (by kernel_rfl)
    have B1 := hide (b1.alloc (by simp) (.cells #[.string ⟨#[115, 116, 97, 116, 105, 115, 116, 105, 99, 115]⟩] 53))
    clear hv b1
    simp only [Option.isSome] at hl
    go_enter Tryd.func9, Tryd.ntmps9
    go_wp2_with fail
    refine (unhide cN).mono ?_
    rintro e w' ⟨rfl, rfl⟩
    go_wp2_with fail
    go_ret
    exact ⟨rfl, unhide B1⟩
  by_cases h12 : k = 12
  · subst h12
    have hl := run_look nmE20 20 12 w (some (9, .agg #[.string ⟨#[112, 114, 111, 99, 101, 115, 115, 45, 107, 105, 108, 108]⟩])) (by kernel_rfl)
    have B1 := hide (b1.alloc (by simp) (.cells #[.string ⟨#[112, 114, 111, 99, 101, 115, 115, 45, 107, 105, 108, 108]⟩] 53))
    clear hv b1
    simp only [Option.isSome] at hl
    go_enter Tryd.func9, Tryd.ntmps9
    go_wp2_with fail
    refine (unhide cN).mono ?_
    rintro e w' ⟨rfl, rfl⟩
    go_wp2_with fail
    go_ret
    exact ⟨rfl, unhide B1⟩
  by_cases h14 : k = 14
  · subst h14
    have hl := run_look nmE20 20 14 w (some (10, .agg #[.string ⟨#[112, 105, 110, 103]⟩])) (by kernel_rfl)
    have B1 := hide (b1.alloc (by simp) (.cells #[.string ⟨#[112, 105, 110, 103]⟩] 53))
    clear hv b1
    simp only [Option.isSome] at hl
    go_enter Tryd.func9, Tryd.ntmps9
    go_wp2_with fail
    refine (unhide cN).mono ?_
    rintro e w' ⟨rfl, rfl⟩
    go_wp2_with fail
    go_ret
    exact ⟨rfl, unhide B1⟩
  by_cases h17 : k = 17
  · subst h17
    have hl := run_look nmE20 20 17 w (some (11, .agg #[.string ⟨#[99, 104, 97, 110, 103, 101, 45, 117, 115, 101, 114]⟩])) (by kernel_rfl)
    have B1 := hide (b1.alloc (by simp) (.cells #[.string ⟨#[99, 104, 97, 110, 103, 101, 45, 117, 115, 101, 114]⟩] 53))
    clear hv b1
    simp only [Option.isSome] at hl
    go_enter Tryd.func9, Tryd.ntmps9
    go_wp2_with fail
    refine (unhide cN).mono ?_
    rintro e w' ⟨rfl, rfl⟩
    go_wp2_with fail
    go_ret
    exact ⟨rfl, unhide B1⟩
  by_cases h22 : k = 22
  · subst h22
    have hl := run_look nmE20 20 22 w (some (12, .agg #[.string ⟨#[112, 114, 101, 112, 97, 114, 101]⟩])) (by kernel_rfl)
    have B1 := hide (b1.alloc (by simp) (.cells #[.string ⟨#[112, 114, 101, 112, 97, 114, 101]⟩] 53))
    clear hv b1
    simp only [Option.isSome] at hl
    go_enter Tryd.func9, Tryd.ntmps9
    go_wp2_with fail
    refine (unhide cN).mono ?_
    rintro e w' ⟨rfl, rfl⟩
    go_wp2_with fail
    go_ret
    exact ⟨rfl, unhide B1⟩
  by_cases h23 : k = 23
  · subst h23
    have hl := run_look nmE20 20 23 w (some (13, .agg #[.string ⟨#[101, 120, 101, 99, 117, 116, 101]⟩])) (by kernel_rfl)
    have B1 := hide (b1.alloc (by simp) (.cells #[.string ⟨#[101, 120, 101, 99, 117, 116, 101]⟩] 53))
    clear hv b1
    simp only [Option.isSome] at hl
    go_enter Tryd.func9, Tryd.ntmps9
    go_wp2_with fail
    refine (unhide cN).mono ?_
    rintro e w' ⟨rfl, rfl⟩
    go_wp2_with fail
    go_ret
    exact ⟨rfl, unhide B1⟩
  by_cases h24 : k = 24
  · subst h24
    have hl := run_look nmE20 20 24 w (some (14, .agg #[.string ⟨#[108, 111, 110, 103, 45, 100, 97, 116, 97]⟩])) (by kernel_rfl)
    have B1 := hide (b1.alloc (by simp) (.cells #[.string ⟨#[108, 111, 110, 103, 45, 100, 97, 116, 97]⟩] 53))
    clear hv b1
    simp only [Option.isSome] at hl
    go_enter Tryd.func9, Tryd.ntmps9
    go_wp2_with fail
    refine (unhide cN).mono ?_
    rintro e w' ⟨rfl, rfl⟩
    go_wp2_with fail
    go_ret
    exact ⟨rfl, unhide B1⟩
  by_cases h25 : k = 25
  · subst h25
    have hl := run_look nmE20 20 25 w (some (15, .agg #[.string ⟨#[99, 108, 111, 115, 101]⟩])) (by kernel_rfl)
    have B1 := hide (b1.alloc (by simp) (.cells #[.string ⟨#[99, 108, 111, 115, 101]⟩] 53))
    clear hv b1
    simp only [Option.isSome] at hl
    go_enter Tryd.func9, Tryd.ntmps9
    go_wp2_with fail
    refine (unhide cN).mono ?_
    rintro e w' ⟨rfl, rfl⟩
    go_wp2_with fail
    go_ret
    exact ⟨rfl, unhide B1⟩
  by_cases h26 : k = 26
  · subst h26
    have hl := run_look nmE20 20 26 w (some (16, .agg #[.string ⟨#[115, 116, 109, 116, 45, 114, 101, 115, 101, 116]⟩])) (by kernel_rfl)
    have B1 := hide (b1.alloc (by simp) (.cells #[.string ⟨#[115, 116, 109, 116, 45, 114, 101, 115, 101, 116]⟩] 53))
    clear hv b1
    simp only [Option.isSome] at hl
    go_enter Tryd.func9, Tryd.ntmps9
    go_wp2_with fail
    refine (unhide cN).mono ?_
    rintro e w' ⟨rfl, rfl⟩
    go_wp2_with fail
    go_ret
    exact ⟨rfl, unhide B1⟩
  by_cases h27 : k = 27
  · subst h27
    have hl := run_look nmE20 20 27 w (some (17, .agg #[.string ⟨#[115, 101, 116, 45, 111, 112, 116, 105, 111, 110]⟩])) (by kernel_rfl)
    have B1 := hide (b1.alloc (by simp) (.cells #[.string ⟨#[115, 101, 116, 45, 111, 112, 116, 105, 111, 110]⟩] 53))
    clear hv b1
    simp only [Option.isSome] at hl
    go_enter Tryd.func9, Tryd.ntmps9
    go_wp2_with fail
    refine (unhide cN).mono ?_
    rintro e w' ⟨rfl, rfl⟩
    go_wp2_with fail
    go_ret
    exact ⟨rfl, unhide B1⟩
  by_cases h28 : k = 28
  · subst h28
    have hl := run_look nmE20 20 28 w (some (18, .agg #[.string ⟨#[102, 101, 116, 99, 104]⟩])) (by kernel_rfl)
    have B1 := hide (b1.alloc (by simp) (.cells #[.string ⟨#[102, 101, 116, 99, 104]⟩] 53))
    clear hv b1
    simp only [Option.isSome] at hl
    go_enter Tryd.func9, Tryd.ntmps9
    go_wp2_with fail
    refine (unhide cN).mono ?_
    rintro e w' ⟨rfl, rfl⟩
    go_wp2_with fail
    go_ret
    exact ⟨rfl, unhide B1⟩
  by_cases h31 : k = 31
  · subst h31
    have hl := run_look nmE20 20 31 w (some (19, .agg #[.string ⟨#[114, 101, 115, 101, 116]⟩])) (by kernel_rfl)
    have B1 := hide (b1.alloc (by simp) (.cells #[.string ⟨#[114, 101, 115, 101, 116]⟩] 53))
    clear hv b1
    simp only [Option.isSome] at hl
    go_enter Tryd.func9, Tryd.ntmps9
    go_wp2_with fail
    refine (unhide cN).mono ?_
    rintro e w' ⟨rfl, rfl⟩
    go_wp2_with fail
    go_ret
    exact ⟨rfl, unhide B1⟩
  have hS : nmS k = ⟨(cmdB ++ Lib.itoa k).toArray⟩ := by
    unfold nmS
    rw [if_neg h0, if_neg h1, if_neg h2, if_neg h3, if_neg h4, if_neg h5, if_neg h6, if_neg h7, if_neg h9, if_neg h12, if_neg h14, if_neg h17, if_neg h22, if_neg h23, if_neg h24, if_neg h25, if_neg h26, if_neg h27, if_neg h28, if_neg h31]
  rw [hS]
  have hl := run_look nmE20 20 k w none (find_no k h0 h1 h2 h3 h4 h5 h6 h7 h9 h12 h14 h17 h22 h23 h24 h25 h26 h27 h28 h31)
  have bz := b1.alloc (by simp) (.cells #[.string ⟨#[]⟩] 53)
  have cI := hide (Tryd.strconv_Itoa k (by omega) (by omega) _ (hv.later bz))
  have BZ := hide bz
  simp only [Option.isSome] at hl
  have hil : ¬ 9223372036854775807 < 8 + (Lib.itoa k).length := by
    have := Lib.itoa_length_le k (by omega) (by omega)
    omega
  have HC := hide (cmd_cat (Lib.itoa k))
  clear hv b1 bz hS h0 h1 h2 h3 h4 h5 h6 h7 h9 h12 h14 h17 h22 h23 h24 h25 h26 h27 h28 h31
  go_enter Tryd.func9, Tryd.ntmps9
  go_wp2_with fail
  refine (unhide cN).mono ?_
  rintro e w' ⟨rfl, rfl⟩
  go_wp2_with fail
  refine (unhide cI).mono ?_
  rintro e w3 ⟨rfl, kk, os, rfl⟩
  go_wp2_with fail
  go_ret
  exact ⟨by rw [← unhide HC]; rfl, (unhide BZ).trans (Lib.below_grow _ _ (unhide BZ).size _ _)⟩

end Go.Proofs.YtpidlfifipgadaaDoor
