/-
  What slices.ContainsFunc returns of types and isUnknown: whether one of them is of no kind. It writes nothing that was there. Conditions: the slice can be read; types are bytes.
-/
import Derived.Test.YtfgghgoonfamkaaRtMem
import Derived.Test.YtfgghgoonfamkaaVaKind
import Derived.Test.YtfgghgoonfamkaaClRow
namespace Go.Proofs.Ytfgghgoonfamkaa
open Go.RowKit
set_option linter.unusedVariables false
set_option linter.unusedSimpArgs false

/-- Is it of no kind? -/
def unk (p : Ty) : Bool := decide (kdV p.t p.un < 0)

set_option maxHeartbeats 4000000 in
set_option maxRecDepth 100000 in
theorem isUnk_any (t : Int) (un : Bool) (w : World) (q0 : 0 ≤ t) (q1 : t < 256) : Calls Try.prog 46 #[.agg #[.int .u8 t, .bool un]] w fun e w' => e = .returned (.bool (decide (kdV t un < 0))) ∧ Below w.heap.size w w' := by
  have b1 := below_alloc w (.cells #[.int .u8 t, .bool un] 27)
  have r1 := heap_alloc_new w (.cells #[.int .u8 t, .bool un] 27)
  have k0 := vrow_cell r1 (j := 0) (v := .int .u8 t) rfl
  have k1 := vrow_cell r1 (j := 1) (v := .bool un) rfl
  have cK := hide (kind_any t un (w.alloc (.cells #[.int .u8 t, .bool un] 27)) q0 q1)
  generalize kdV t un = K at *
  have B1 := hide b1
  clear b1 r1
  go_enter Try.func46, Try.ntmps46
  go_wp2_with fail
  refine (unhide cK).mono ?_
  rintro e w2 ⟨rfl, b2⟩
  have B2 := hide ((unhide B1).trans (b2.mono (unhide B1).size))
  clear b2 cK B1 k0 k1
  go_wp2_with fail
  go_ret
  exact ⟨rfl, unhide B2⟩
/-- What IndexFunc tells. -/
def OutI (w : World) (B : Bool) (e : Ending) (w' : World) : Prop := ∃ R : Int, e = .returned (.int .i64 R) ∧ decide (R ≥ 0) = B ∧ Below w.heap.size w w'
theorem OutI.of {w : World} {B : Bool} {w' : World} {R : Int} (h : decide (R ≥ 0) = B) (hb : Below w.heap.size w w') : OutI w B (.returned (.int .i64 R)) w' := ⟨R, rfl, h, hb⟩
theorem any_next {ts : List Ty} {j : Nat} {p : Ty} (h : ts[j]? = some p) : (ts.take (j + 1)).any unk = ((ts.take j).any unk || unk p) := by
  rw [List.take_add_one, h, List.any_append]
  simp
theorem any_at {ts : List Ty} {j : Nat} {p : Ty} (h : ts[j]? = some p) (hp : unk p = true) : ts.any unk = true := List.any_eq_true.2 ⟨p, List.mem_of_getElem? h, hp⟩

set_option maxHeartbeats 4000000 in
set_option maxRecDepth 100000 in
theorem index_any (ao : Option Addr) (m c : Nat) (ts : List Ty) (w : World) (ht : Tys w ao m c ts) (hT : ∀ p ∈ ts, 0 ≤ p.t ∧ p.t < 256) :
    Calls Try.prog 60 #[.slice ao m c, .func (.func 46) #[] #[]] w fun e w' => OutI w (ts.any unk) e w' := by
  have hml := ht.len
  have hle := ht.le
  have hmx := ht.max
  have HT := hide ht
  have HU := hide hT
  obtain ⟨RES, hRES⟩ : ∃ z, z = ts.any unk := ⟨_, rfl⟩
  rw [← hRES]
  have HR := hide hRES
  clear ht hT hRES
  go_enter Try.func60, Try.ntmps60
  go_wp2_with fail
  go_loopw [8] (fun iv ws => ∃ (j : Nat), j ≤ m ∧ iv = .int .i64 (j : Int) ∧ (ts.take j).any unk = false ∧ Below w.heap.size w ws) (fun iv _ => m - (intOf iv).toNat)
  case atStart => exact ⟨0, by omega, rfl, rfl, Below.refl _ _⟩
  case round =>
    obtain ⟨j, hj, rfl, hA, hB⟩ := hrel
    have HB := hide hB
    clear hB
    by_cases hlt : j < m
    · have g1 : ((j : Nat) : Int) < (m : Int) := by omega
      obtain ⟨p, hp⟩ : ∃ p, ts[j]? = some p := ⟨_, List.getElem?_eq_getElem (by omega)⟩
      have q := unhide HU p (List.mem_of_getElem? hp)
      have HN := hide (any_next hp)
      have HY := hide (any_at hp)
      obtain ⟨tb, tq, hiy, hty⟩ := ((unhide HT).later (unhide HB)).idx hp (j : Int) rfl
      obtain ⟨k0, k1⟩ : wr.cell? ⟨tb, tq, none⟩ = some (.int .u8 p.t) ∧ wr.cell? ⟨tb, tq + 1, none⟩ = some (.bool p.un) := ⟨hty 0 (by decide), hty 1 (by decide)⟩
      have cU := hide (isUnk_any p.t p.un wr q.1 q.2)
      have e : decide (kdV p.t p.un < 0) = unk p := rfl
      rw [e] at cU
      obtain ⟨pt, pu⟩ := p
      simp only at k0 k1 cU
      generalize unk ⟨pt, pu⟩ = V at *
      clear hty q hp e
      cases V
      · go_wp2_with (go_at_call 46; refine (unhide cU).mono ?_; rintro e w2 ⟨rfl, b2⟩; have B2 := hide ((unhide HB).trans (b2.mono (unhide HB).size)); clear b2)
        go_roundw
        case rel => exact ⟨j + 1, by omega, by go_num, by rw [unhide HN, hA]; rfl, unhide B2⟩
        case measure => simp [intOf]; omega
      · have HE := hide (show RES = true by rw [unhide HR]; exact unhide HY rfl)
        clear HY HN
        go_wp2_with (go_at_call 46; refine (unhide cU).mono ?_; rintro e w2 ⟨rfl, b2⟩; have B2 := hide ((unhide HB).trans (b2.mono (unhide HB).size)); clear b2)
        go_ret
        exact OutI.of (by rw [unhide HE]; exact decide_eq_true (by omega)) (unhide B2)
    · have hjn : j = m := by omega
      subst hjn
      have g1 : ¬ ((j : Nat) : Int) < (j : Int) := by omega
      have HE := hide (show RES = false by rw [unhide HR, ← hA, List.take_of_length_le (by omega)])
      go_wp2_with fail
      go_ret
      exact OutI.of (by rw [unhide HE]; rfl) (unhide HB)

set_option maxHeartbeats 4000000 in
set_option maxRecDepth 100000 in
theorem contains_any (ao : Option Addr) (m c : Nat) (ts : List Ty) (w : World) (ht : Tys w ao m c ts) (hT : ∀ p ∈ ts, 0 ≤ p.t ∧ p.t < 256) :
    Calls Try.prog 47 #[.slice ao m c, .func (.func 46) #[] #[]] w fun e w' => e = .returned (.bool (ts.any unk)) ∧ Below w.heap.size w w' := by
  have cI := hide (index_any ao m c ts w ht hT)
  generalize ts.any unk = RES at *
  clear ht hT
  go_enter Try.func47, Try.ntmps47
  go_wp2_with fail
  refine (unhide cI).mono ?_
  rintro e w2 ⟨R, rfl, hR, b2⟩
  have B2 := hide b2
  have HR := hide hR
  clear hR b2 cI
  go_wp2_with fail
  go_ret
  exact ⟨by rw [← unhide HR]; rfl, unhide B2⟩


end Go.Proofs.Ytfgghgoonfamkaa
