/-
  What knownName and Known return for any type, and where the texts of a column lie. They write nothing that was there. Conditions: none.
-/
import Derived.Test.YtfgghgoonfamkaaMPl
import Derived.Test.YtfgghgoonfamkaaMA
import Derived.Deep.WholeRow
import Derived.Laws.ResultCell
import Derived.BigRegion
namespace Go.Proofs.Ytfgghgoonfamkaa
open Go.RowKit
set_option linter.unusedVariables false
set_option linter.unusedSimpArgs false

/-- The array of names. -/
def nmV : Array Value := ((List.range 256).map fun (i : Nat) => Value.string (knS (i : Int))).toArray
theorem nmV_size : nmV.size = 256 := by simp [nmV]
theorem nmV_at {k : Nat} (h : k < 256) : nmV[k]? = some (.string (knS (k : Int))) := by simp [nmV, h]
theorem nmV_one : nmV.all (·.oneCell') = true := by
  rw [Array.all_eq_true_iff_forall_mem]
  intro v hv
  simp [nmV] at hv
  obtain ⟨x, _, rfl⟩ := hv
  rfl
theorem Try.nmSize : (Try.prog.info? 130).map (·.size) = some 256 := by kernel_rfl
def nmZ : Array Value := (List.replicate 256 (Value.string ⟨#[]⟩)).toArray
theorem nmZ_size : nmZ.size = 256 := by unfold nmZ; rw [List.size_toArray, List.length_replicate]
theorem Try.nmZero : (Try.prog.info? 130).map (fun i => (i.zero, i.size)) = some (some (.agg nmZ), 256) := by kernel_rfl

theorem wpList_nmAlloc {ops : Array Oper} {rest : List Oper} {o : Oper} {a : Act} {w : World} {Q : Exit → Act → World → Prop} (hgd : o.guard = none) (ho : o.op = .alloc 130)
    (h : ∀ w1, w1 = w.alloc (.cells nmZ 130) → wpList Try.prog ops Q rest (a.put o.dst (.pointer (some ⟨w.heap.size, 0, none⟩))) w1) : wpList Try.prog ops Q (o :: rest) a w := by
  refine wpList_plain hgd fun K hK' => ?_
  have hz := (zero_of_info Try.nmZero).1
  unfold Oper.wp
  simp [execOp, ho, Instr.alloc, hz, Result.andThen]
  exact hK' _ _ (h _ rfl)
theorem wpList_nmStore {ops : Array Oper} {rest : List Oper} {o : Oper} {a : Act} {w w0 : World} {Q : Exit → Act → World → Prop} (hgd : o.guard = none) (x y : Operand) (ho : o.op = .store 130 x y)
    (hx : a.eval x = .pointer (some ⟨w0.heap.size, 0, none⟩)) (hy : a.eval y = .agg nmV) (hw : w = w0.alloc (.cells nmZ 130))
    (h : ∀ w1, w1.heap[w0.heap.size]? = some (.cells nmV 130 (0, 0)) → Below w0.heap.size w0 w1 → wpList Try.prog ops Q rest (a.put o.dst undef) w1) : wpList Try.prog ops Q (o :: rest) a w := by
  subst hw
  refine wpList_store_row hgd _ x y ho w0.heap.size nmV hx hy _ nmZ (heap_alloc_new w0 _) (by rw [nmV_size]; exact Try.nmSize) (by rw [nmV_size, nmZ_size]) nmV_one ?_
  rw [World.setRow_alloc_new]
  exact h _ (heap_alloc_new w0 _) (below_alloc w0 _)

theorem wpList_nmBuild {ops : Array Oper} {rest : List Oper} {o : Oper} {a : Act} {w : World} {Q : Exit → Act → World → Prop} (hgd : o.guard = none) (ho : o.op = .build 130 #[(0, .const (.string ⟨#[100, 101, 99, 105, 109, 97, 108]⟩)), (1, .const (.string ⟨#[116, 105, 110, 121]⟩)), (2, .const (.string ⟨#[115, 104, 111, 114, 116]⟩)), (3, .const (.string ⟨#[108, 111, 110, 103]⟩)), (4, .const (.string ⟨#[102, 108, 111, 97, 116]⟩)), (5, .const (.string ⟨#[100, 111, 117, 98, 108, 101]⟩)), (6, .const (.string ⟨#[110, 117, 108, 108]⟩)), (7, .const (.string ⟨#[116, 105, 109, 101, 115, 116, 97, 109, 112]⟩)), (8, .const (.string ⟨#[108, 111, 110, 103, 45, 108, 111, 110, 103]⟩)), (9, .const (.string ⟨#[105, 110, 116, 50, 52]⟩)), (10, .const (.string ⟨#[100, 97, 116, 101]⟩)), (11, .const (.string ⟨#[116, 105, 109, 101]⟩)), (12, .const (.string ⟨#[100, 97, 116, 101, 45, 116, 105, 109, 101]⟩)), (13, .const (.string ⟨#[121, 101, 97, 114]⟩)), (15, .const (.string ⟨#[118, 97, 114, 45, 99, 104, 97, 114]⟩)), (16, .const (.string ⟨#[98, 105, 116]⟩)), (245, .const (.string ⟨#[106, 115, 111, 110]⟩)), (246, .const (.string ⟨#[110, 101, 119, 45, 100, 101, 99, 105, 109, 97, 108]⟩)), (247, .const (.string ⟨#[101, 110, 117, 109]⟩)), (248, .const (.string ⟨#[115, 101, 116]⟩)), (249, .const (.string ⟨#[116, 105, 110, 121, 45, 98, 108, 111, 98]⟩)), (250, .const (.string ⟨#[109, 101, 100, 105, 117, 109, 45, 98, 108, 111, 98]⟩)), (251, .const (.string ⟨#[108, 111, 110, 103, 45, 98, 108, 111, 98]⟩)), (252, .const (.string ⟨#[98, 108, 111, 98]⟩)), (253, .const (.string ⟨#[118, 97, 114, 45, 115, 116, 114, 105, 110, 103]⟩)), (254, .const (.string ⟨#[115, 116, 114, 105, 110, 103]⟩)), (255, .const (.string ⟨#[103, 101, 111, 109, 101, 116, 114, 121]⟩))])
    (h : wpList Try.prog ops Q rest (a.put o.dst (.agg nmV)) w) : wpList Try.prog ops Q (o :: rest) a w := by
  have hb : Try.prog.built 130 ((#[(0, .const (.string ⟨#[100, 101, 99, 105, 109, 97, 108]⟩)), (1, .const (.string ⟨#[116, 105, 110, 121]⟩)), (2, .const (.string ⟨#[115, 104, 111, 114, 116]⟩)), (3, .const (.string ⟨#[108, 111, 110, 103]⟩)), (4, .const (.string ⟨#[102, 108, 111, 97, 116]⟩)), (5, .const (.string ⟨#[100, 111, 117, 98, 108, 101]⟩)), (6, .const (.string ⟨#[110, 117, 108, 108]⟩)), (7, .const (.string ⟨#[116, 105, 109, 101, 115, 116, 97, 109, 112]⟩)), (8, .const (.string ⟨#[108, 111, 110, 103, 45, 108, 111, 110, 103]⟩)), (9, .const (.string ⟨#[105, 110, 116, 50, 52]⟩)), (10, .const (.string ⟨#[100, 97, 116, 101]⟩)), (11, .const (.string ⟨#[116, 105, 109, 101]⟩)), (12, .const (.string ⟨#[100, 97, 116, 101, 45, 116, 105, 109, 101]⟩)), (13, .const (.string ⟨#[121, 101, 97, 114]⟩)), (15, .const (.string ⟨#[118, 97, 114, 45, 99, 104, 97, 114]⟩)), (16, .const (.string ⟨#[98, 105, 116]⟩)), (245, .const (.string ⟨#[106, 115, 111, 110]⟩)), (246, .const (.string ⟨#[110, 101, 119, 45, 100, 101, 99, 105, 109, 97, 108]⟩)), (247, .const (.string ⟨#[101, 110, 117, 109]⟩)), (248, .const (.string ⟨#[115, 101, 116]⟩)), (249, .const (.string ⟨#[116, 105, 110, 121, 45, 98, 108, 111, 98]⟩)), (250, .const (.string ⟨#[109, 101, 100, 105, 117, 109, 45, 98, 108, 111, 98]⟩)), (251, .const (.string ⟨#[108, 111, 110, 103, 45, 98, 108, 111, 98]⟩)), (252, .const (.string ⟨#[98, 108, 111, 98]⟩)), (253, .const (.string ⟨#[118, 97, 114, 45, 115, 116, 114, 105, 110, 103]⟩)), (254, .const (.string ⟨#[115, 116, 114, 105, 110, 103]⟩)), (255, .const (.string ⟨#[103, 101, 111, 109, 101, 116, 114, 121]⟩))] : Array (Nat × Operand)).map fun (i, x) => (i, a.eval x)).toList = some nmV := by kernel_rfl
  refine wpList_build hgd _ _ ho (by rw [hb]; rfl) ?_
  rw [hb]
  exact h

set_option maxHeartbeats 1000000 in
set_option maxRecDepth 100000 in
theorem knownName_any (k : Int) (w : World) (h0 : 0 ≤ k) (h1 : k < 256) : Calls Try.prog 83 #[.int .u8 k] w fun e w' => e = .returned (.string (knS k)) ∧ Below w.heap.size w w' := by
  obtain ⟨K, rfl⟩ := Int.eq_ofNat_of_zero_le h0
  have hK : K < 256 := by omega
  have hat := nmV_at hK
  generalize knS (K : Int) = R at *
  go_enter Try.func83, Try.ntmps83
  go_wp2_with (first
    | (with_reducible show wpList Try.prog _ _ (Oper.mk _ (Op.build 130 _) _ _ _ none :: _) _ _; refine wpList_nmBuild rfl rfl ?_)
    | (with_reducible show wpList Try.prog _ _ (Oper.mk _ (Op.alloc 130) _ _ _ none :: _) _ _; refine wpList_nmAlloc rfl rfl ?_; intro w1 hw1)
    | (with_reducible show wpList Try.prog _ _ (Oper.mk _ (Op.store 130 _ _) _ _ _ none :: _) _ _; refine wpList_nmStore rfl (.tmp 3) (.tmp 4) rfl rfl rfl hw1 ?_; clear hw1 w1; intro w1 hh hb; have hc := cell_of_row w1 _ K _ _ _ hh; rw [hat] at hc; have B1 := hide hb; clear hh hb hat))
  go_ret
  exact ⟨rfl, unhide B1⟩

theorem ba_isEmpty (s : ByteArray) : s.toList.isEmpty = decide (s.size = 0) := by
  rw [Bool.eq_iff_iff]
  simp only [List.isEmpty_iff, decide_eq_true_eq]
  rw [ByteArray.toList_eq]
  constructor
  · intro h
    have := congrArg List.length h
    simpa using this
  · intro h
    apply List.eq_nil_of_length_eq_zero
    simpa using h


set_option maxHeartbeats 1000000 in
set_option maxRecDepth 100000 in
theorem known_any (k : Int) (w : World) (h0 : 0 ≤ k) (h1 : k < 256) : Calls Try.prog 70 #[.int .u8 k] w fun e w' => e = .returned (.bool (kn k)) ∧ Below w.heap.size w w' := by
  have cN := hide (knownName_any k w h0 h1)
  have e1 : (knS k).toList.isEmpty = !(kn k) := by
    rw [ba_isEmpty]
    unfold kn
    cases q : decide ((knS k).size = 0)
    · simp at q; simp [q]
    · simp at q; simp [q]
  generalize knS k = R at *
  generalize kn k = B at *
  go_enter Try.func70, Try.ntmps70
  go_wp2_with fail
  refine (unhide cN).mono ?_
  rintro e w1 ⟨rfl, hb⟩
  have HB := hide hb
  clear hb cN
  go_wp2_with fail
  go_ret
  exact ⟨by simp [e1], unhide HB⟩


end Go.Proofs.Ytfgghgoonfamkaa
