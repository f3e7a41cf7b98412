/-
  What Codes of the document's own answer returns for any lengths: the same codes. It writes nothing that was there. Conditions: the slice can be read.
-/
import Derived.Test.YtnoabdafmgmenaaGreatDoorHufRefCodes
namespace Go.Proofs.YtnoabdafmgmenaaGreatDoor
open Go.RowKit
set_option linter.unusedVariables false
set_option linter.unusedSimpArgs false

/-- The codes laid when the symbols of less than n bits, and those of n bits below i, have theirs. -/
def cdo (L : List Int) (n i : Nat) : List Int := (List.range L.length).map fun j => if 0 < ln L j ∧ (ln L j < (n : Int) ∨ (ln L j = (n : Int) ∧ j < i)) then code L j else 0
theorem cdo_len (L : List Int) (n i : Nat) : (cdo L n i).length = L.length := by simp [cdo]
theorem cdo_start (L : List Int) : cdo L 1 0 = List.replicate L.length 0 := by
  apply List.ext_getElem (by simp [cdo])
  intro j h1 h2
  simp only [cdo, List.getElem_map, List.getElem_range, List.getElem_replicate]
  rw [if_neg (by omega)]
theorem cdo_hit (L : List Int) {n i : Nat} (hi : i < L.length) (hn : ln L i = (n : Int)) (h0 : n ≠ 0) : (cdo L n i).set i (code L i) = cdo L n (i + 1) := by
  apply List.ext_getElem (by simp [cdo])
  intro j h1 h2
  rw [List.getElem_set]
  simp only [cdo, List.getElem_map, List.getElem_range]
  by_cases h : i = j
  · subst h
    rw [if_pos rfl, if_pos (by omega)]
  · rw [if_neg h]
    by_cases h3 : 0 < ln L j ∧ (ln L j < (n : Int) ∨ (ln L j = (n : Int) ∧ j < i))
    · rw [if_pos h3, if_pos (by omega)]
    · rw [if_neg h3, if_neg (by omega)]
theorem cdo_miss (L : List Int) {n i : Nat} (hi : i < L.length) (hn : ln L i ≠ (n : Int)) : cdo L n i = cdo L n (i + 1) := by
  apply List.ext_getElem (by simp [cdo])
  intro j h1 h2
  simp only [cdo, List.getElem_map, List.getElem_range]
  by_cases h : i = j
  · subst h
    by_cases h3 : 0 < ln L i ∧ (ln L i < (n : Int) ∨ (ln L i = (n : Int) ∧ i < i))
    · rw [if_pos h3, if_pos (by omega)]
    · rw [if_neg h3, if_neg (by omega)]
  · by_cases h3 : 0 < ln L j ∧ (ln L j < (n : Int) ∨ (ln L j = (n : Int) ∧ j < i))
    · rw [if_pos h3, if_pos (by omega)]
    · rw [if_neg h3, if_neg (by omega)]
theorem cdo_next (L : List Int) (n : Nat) : cdo L n L.length = cdo L (n + 1) 0 := by
  apply List.ext_getElem (by simp [cdo])
  intro j h1 h2
  have hj : j < L.length := by simpa [cdo] using h1
  simp only [cdo, List.getElem_map, List.getElem_range]
  by_cases h3 : 0 < ln L j ∧ (ln L j < (n : Int) ∨ (ln L j = (n : Int) ∧ j < L.length))
  · rw [if_pos h3, if_pos (by omega)]
  · rw [if_neg h3, if_neg (by omega)]
/-- The codes laid, and -1 at the symbols below m that have none. -/
def cdp (L : List Int) (m : Nat) : List Int := (List.range L.length).map fun j => if 0 < ln L j then code L j else if j < m then -1 else 0
theorem cdp_len (L : List Int) (m : Nat) : (cdp L m).length = L.length := by simp [cdp]
theorem cdp_start {L : List Int} (hf : ∀ x ∈ L, 0 ≤ x ∧ x ≤ 15) : cdo L 16 0 = cdp L 0 := by
  apply List.ext_getElem (by simp [cdo, cdp])
  intro j h1 h2
  have hj : j < L.length := by simpa [cdo] using h1
  have := hf _ (ln_mem hj)
  simp only [cdo, cdp, List.getElem_map, List.getElem_range]
  by_cases h3 : 0 < ln L j
  · rw [if_pos (by omega), if_pos h3]
  · rw [if_neg (by omega), if_neg h3, if_neg (by omega)]
theorem cdp_zero (L : List Int) {m : Nat} (hm : m < L.length) (h0 : ln L m = 0) : (cdp L m).set m (-1) = cdp L (m + 1) := by
  apply List.ext_getElem (by simp [cdp])
  intro j h1 h2
  rw [List.getElem_set]
  simp only [cdp, List.getElem_map, List.getElem_range]
  by_cases h : m = j
  · subst h
    rw [if_pos rfl, if_neg (by omega), if_pos (by omega)]
  · rw [if_neg h]
    by_cases h3 : j < m
    · rw [if_pos h3, if_pos (show j < m + 1 by omega)]
    · rw [if_neg h3, if_neg (show ¬ j < m + 1 by omega)]
theorem cdp_pos (L : List Int) {m : Nat} (hm : m < L.length) (h0 : 0 < ln L m) : cdp L m = cdp L (m + 1) := by
  apply List.ext_getElem (by simp [cdp])
  intro j h1 h2
  simp only [cdp, List.getElem_map, List.getElem_range]
  by_cases h : m = j
  · subst h
    rw [if_pos h0, if_pos h0]
  · by_cases h3 : j < m
    · rw [if_pos h3, if_pos (show j < m + 1 by omega)]
    · rw [if_neg h3, if_neg (show ¬ j < m + 1 by omega)]
theorem cdp_end {L : List Int} (hf : ∀ x ∈ L, 0 ≤ x ∧ x ≤ 15) : cdp L L.length = cds L := by
  apply List.ext_getElem (by simp [cdp, cds])
  intro j h1 h2
  have hj : j < L.length := by simpa [cdp] using h1
  have := hf _ (ln_mem hj)
  simp only [cdp, cds, List.getElem_map, List.getElem_range]
  by_cases h3 : 0 < ln L j
  · rw [if_pos h3]
  · rw [if_neg h3, if_pos hj]
    unfold code
    rw [if_pos (by omega)]

/-- Where the counting stands: 'next' the last code laid, 'last' its length (0: none yet). -/
structure Cnt (L : List Int) (n i : Nat) (next : Int) (last : Nat) : Prop where
  none : last = 0 → next = 0 ∧ fc L n + ((L.take i).count (n : Int) : Int) = 0
  some : last ≠ 0 → last ≤ n ∧ (next + 1) * 2 ^ (n - last) = fc L n + ((L.take i).count (n : Int) : Int)
  low : 0 ≤ next

theorem Cnt.start (L : List Int) : Cnt L 1 0 0 0 := ⟨fun _ => ⟨rfl, by rw [fc_succ]; simp [Fl]⟩, fun h => absurd rfl h, by omega⟩
theorem Cnt.hit {L : List Int} {n i : Nat} {next : Int} {last : Nat} (h : Cnt L n i next last) (hi : i < L.length) (hn : ln L i = (n : Int)) (h0 : n ≠ 0) : Cnt L n (i + 1) (code L i) n ∧ (last = 0 → code L i = next) ∧ (last ≠ 0 → (next + 1) * 2 ^ (n - last) = code L i) := by
  have hc : code L i = fc L n + ((L.take i).count (n : Int) : Int) := by rw [code_eq L i n hn h0]; unfold rk; rw [hn]
  have hcn := code_lt L hi n hn h0
  have hf := fc_nonneg L n
  refine ⟨⟨fun q => absurd q h0, fun _ => ⟨Nat.le_refl _, ?_⟩, by omega⟩, fun q => ?_, fun q => ?_⟩
  · rw [Nat.sub_self, count_take_succ L hi, if_pos hn, hc]
    simp
    omega
  · rw [hc]; have := h.none q; omega
  · rw [hc]; exact (h.some q).2
theorem Cnt.miss {L : List Int} {n i : Nat} {next : Int} {last : Nat} (h : Cnt L n i next last) (hi : i < L.length) (hn : ln L i ≠ (n : Int)) : Cnt L n (i + 1) next last := by
  have e := count_take_succ L hi (n : Int)
  rw [if_neg hn, Nat.add_zero] at e
  exact ⟨fun q => by rw [e]; exact h.none q, fun q => by rw [e]; exact h.some q, h.low⟩
theorem Cnt.next {L : List Int} {n : Nat} {next : Int} {last : Nat} (h : Cnt L n L.length next last) (h0 : n ≠ 0) : Cnt L (n + 1) 0 next last := by
  have e : fc L n + ((L.take L.length).count (n : Int) : Int) = Fl L n := by
    rw [List.take_length, Fl_eq]
    unfold cz
    rw [if_neg h0]
  refine ⟨fun q => ?_, fun q => ?_, h.low⟩
  · have := h.none q
    rw [e] at this
    rw [fc_succ]
    simp
    omega
  · have := h.some q
    rw [e] at this
    refine ⟨by omega, ?_⟩
    rw [fc_succ, show n + 1 - last = n - last + 1 by omega, Int.pow_succ, ← Int.mul_assoc, this.2]
    simp
    omega

theorem ihd (w : World) (g n c : Nat) {i : Nat} (hi : i < n) (I : Int) (hI : I = i) (wx : World) : (Instr.indexAt 96 (.slice (some ⟨g, 0, none⟩) n c) (.int .i64 I)).run Tryz.prog wx = .ok (.pointer (some ⟨g, i, none⟩)) wx := by
  subst hI
  have hs : ∀ w : World, (sizeOf (Tryz.prog.elem 96)).run Tryz.prog w = .ok 1 w := by intro w; kernel_rfl
  rw [run_indexAt_slice wx 96 _ n c .i64 (i : Int) Tryz.elemInt]
  simp [hs, hi, Addr.add_lit, Result.andThen]
theorem imine_cell {B : Nat} {w : World} {g n c : Nat} {xs : List Int} (h : IMine B w (some ⟨g, 0, none⟩) n c xs) {i : Nat} (hi : i < n) : w.cell? ⟨g, i, none⟩ = some (.int .i64 (xs[i]?.getD 0)) := by
  rcases h.is.at' with q | ⟨b', o', e', c'⟩
  · omega
  · simp only [Option.some.injEq, Addr.mk.injEq, and_true] at e'
    obtain ⟨rfl, rfl⟩ := e'
    have := c' i hi
    rwa [Nat.zero_add] at this

set_option maxHeartbeats 4000000 in
set_option maxRecDepth 20000 in
theorem codes_own (ao : Option Addr) (n c : Nat) (L : List Int) (w : World) (h : Is w ao n c L) :
    Calls Tryz.prog 81 #[.slice ao n c] w fun e w' => (∃ ao1 n1 c1, e = .returned (.tuple #[.slice ao1 n1 c1, .int .i64 (cer L)]) ∧ IMine w.heap.size w' ao1 n1 c1 (cdd L)) ∧ Below w.heap.size w w' := by
  have hlen := hide h.len
  have hmax := h.max
  have hle := h.le
  have H := hide h
  clear h
  have ck := hide (check_ref _ _ _ _ w (unhide H))
  go_enter Tryz.func81, Tryz.ntmps81
  go_wp2_with fail
  refine same_world (unhide ck) ?_
  by_cases he : cer L = 0
  · have hg := hide (good_of he)
    have hcd := hide (show cdd L = cds L by unfold cdd; rw [he]; rfl)
    have hn : n ≤ 320 := by have := (unhide hg).len; rw [unhide hlen] at this; exact this
    have HE := hide he
    rw [he]
    clear he
    generalize whole L = WB
    go_wp2_with (at_make; refine wpList_imkFull rfl _ _ rfl _ _ _ _ n rfl rfl rfl rfl (by omega) ?_; intro w1 m1 b1 z1)
    have m1' : IMine w.heap.size w1 (some ⟨w.heap.size, 0, none⟩) n n (cdo L 1 0) := by rw [cdo_start, unhide hlen]; exact m1
    clear m1
    go_loopw [7, 8, 9] (fun x l k wr => ∃ (m last : Nat) (nx : Int), 1 ≤ m ∧ m ≤ 16 ∧ k = .int .i64 m ∧ l = .int .i64 last ∧ x = .int .i64 nx ∧ Cnt L m 0 nx last ∧ last ≤ 15 ∧ IMine w.heap.size wr (some ⟨w.heap.size, 0, none⟩) n n (cdo L m 0) ∧ Below w.heap.size w wr) (fun _ _ k _ => 17 - (intOf k).toNat)
    case atStart => exact ⟨1, 0, 0, by omega, by omega, rfl, rfl, rfl, Cnt.start L, by omega, m1', b1⟩
    case round =>
      clear m1' b1 z1
      obtain ⟨m, last, nx, hm1, hm, rfl, rfl, rfl, hcnt, hl15, hmine, hbel⟩ := hrel
      have HC := hide hcnt
      have HM := hide hmine
      clear hcnt hmine
      by_cases hlt : m < 16
      · have hlt' : (m : Int) ≤ 15 := by omega
        go_wp2_with fail
        go_loopw [7, 8, 10] (fun x l k wr => ∃ (i last : Nat) (nx : Int), i ≤ n ∧ k = .int .i64 i ∧ l = .int .i64 last ∧ x = .int .i64 nx ∧ Cnt L m i nx last ∧ last ≤ 15 ∧ IMine w.heap.size wr (some ⟨w.heap.size, 0, none⟩) n n (cdo L m i) ∧ Below w.heap.size w wr) (fun _ _ k _ => n - (intOf k).toNat)
        case atStart => exact ⟨0, last, nx, by omega, rfl, rfl, rfl, unhide HC, hl15, unhide HM, hbel⟩
        case round =>
          clear HC HM hbel hl15
          obtain ⟨i, last, nx, hi, rfl, rfl, rfl, hcnt, hl15, hmine, hbel⟩ := hrel
          have HC := hide hcnt
          have HM := hide hmine
          by_cases hin : i < n
          · have hiL := hide (show i < L.length by rw [unhide hlen]; exact hin)
            obtain ⟨b, o, hix, hcx⟩ := ((unhide H).later hbel).idx hin (i : Int) rfl
            obtain ⟨x, hx⟩ : ∃ x, x = ln L i := ⟨_, rfl⟩
            rw [show L[i]?.getD 0 = x from hx.symm] at hcx
            have hxf := (unhide hg).fit _ (ln_mem (unhide hiL))
            rw [← hx] at hxf
            have HX := hide hx
            clear hx
            have hlow := hcnt.low
            by_cases hxm : x = (m : Int)
            · have hh := hide (hcnt.hit (unhide hiL) (by rw [← unhide HX]; exact hxm) (by omega))
              have hcb := code_bd (unhide hg) (unhide hiL)
              have hidx := ihd w w.heap.size n n hin (i : Int) rfl
              have cc := imine_cell hmine hin
              have fr := hmine.free i
              have hcl := (code_lt L (unhide hiL) m (by rw [← unhide HX]; exact hxm) (by omega)).1
              have hc0 : 0 ≤ code L i := by have := fc_nonneg L m; omega
              obtain ⟨C, hC⟩ : ∃ C, C = code L i := ⟨_, rfl⟩
              rw [← hC] at hcb hc0 hh
              have HCE := hide hC
              have hst := hide (show (cdo L m i).set i C = cdo L m (i + 1) by rw [hC]; exact cdo_hit L (unhide hiL) (by rw [← unhide HX]; exact hxm) (by omega))
              clear hC hcnt hmine hcl
              subst hxm
              by_cases hl0 : last = 0
              · subst hl0
                have hnx : nx = C := ((unhide hh).2.1 rfl).symm
                subst hnx
                go_wp2_with fail
                go_roundw
                case rel => exact ⟨i + 1, m, nx, by omega, by go_num, by go_num, rfl, (unhide hh).1, by omega, by rw [← unhide hst]; exact (unhide HM).stored i _ (by omega) (by omega), hbel.setCell (by simp) _⟩
                case measure => simp [intOf]; omega
              · have hsm := (unhide HC).some hl0
                have heq := (unhide hh).2.2 hl0
                have hlm : last ≤ m := hsm.1
                have hnx1 : nx + 1 ≤ C := by
                  have hp : (1 : Int) ≤ 2 ^ (m - last) := Int.pow_pos (by omega)
                  have := Int.mul_le_mul_of_nonneg_left hp (show 0 ≤ nx + 1 by omega)
                  omega
                have l0 : 0 < (last : Int) := by omega
                have l0n : 0 < last := by omega
                clear hsm
                go_wp2_with fail
                go_roundw
                case rel => exact ⟨i + 1, m, C, by omega, by go_num, by go_num, rfl, (unhide hh).1, by omega, by rw [← unhide hst]; exact (unhide HM).stored i _ (by omega) (by omega), hbel.setCell (by simp) _⟩
                case measure => simp [intOf]; omega
            · have hms := hide (hcnt.miss (unhide hiL) (by rw [← unhide HX]; exact hxm))
              have hst := hide (cdo_miss L (n := m) (unhide hiL) (by rw [← unhide HX]; exact hxm))
              have hne : (x != (m : Int)) = true := by simpa using hxm
              clear hcnt hmine
              go_wp2_with fail
              go_roundw
              case rel => exact ⟨i + 1, last, nx, by omega, by go_num, rfl, rfl, unhide hms, hl15, by rw [← unhide hst]; exact unhide HM, hbel⟩
              case measure => simp [intOf]; omega
          · have hin2 := hide (show i = L.length by rw [unhide hlen]; omega)
            have hnx := hide (show Cnt L (m + 1) 0 nx last by have := unhide HC; rw [unhide hin2] at this; exact this.next (by omega))
            have hmm := hide (show IMine w.heap.size wr (some ⟨w.heap.size, 0, none⟩) n n (cdo L (m + 1) 0) by rw [← cdo_next, ← unhide hin2]; exact unhide HM)
            clear hcnt hmine
            go_wp2_with fail
            go_roundw
            case rel => exact ⟨m + 1, last, nx, by omega, by omega, by go_num, rfl, rfl, unhide hnx, hl15, unhide hmm, hbel⟩
            case measure => simp [intOf]; omega
      · have hm16 := hide (show m = 16 by omega)
        have HP := hide (show IMine w.heap.size wr (some ⟨w.heap.size, 0, none⟩) n n (cdp L 0) by rw [← cdp_start (unhide hg).fit, ← unhide hm16]; exact unhide HM)
        clear HC HM
        go_wp2_with fail
        go_loopw [11] (fun k wr => ∃ i : Nat, i ≤ n ∧ k = .int .i64 i ∧ IMine w.heap.size wr (some ⟨w.heap.size, 0, none⟩) n n (cdp L i) ∧ Below w.heap.size w wr) (fun k _ => n - (intOf k).toNat)
        case atStart => exact ⟨0, by omega, rfl, unhide HP, hbel⟩
        case round =>
          clear hbel HP
          obtain ⟨i, hi, rfl, hmine, hbel⟩ := hrel
          have HM := hide hmine
          by_cases hin : i < n
          · have hiL := hide (show i < L.length by rw [unhide hlen]; exact hin)
            obtain ⟨b, o, hix, hcx⟩ := ((unhide H).later hbel).idx hin (i : Int) rfl
            obtain ⟨x, hx⟩ : ∃ x, x = ln L i := ⟨_, rfl⟩
            rw [show L[i]?.getD 0 = x from hx.symm] at hcx
            have hxf := (unhide hg).fit _ (ln_mem (unhide hiL))
            rw [← hx] at hxf
            have HX := hide hx
            clear hx
            have hidx := ihd w w.heap.size n n hin (i : Int) rfl
            have cc := imine_cell hmine hin
            have fr := hmine.free i
            clear hmine
            by_cases hx0 : x = 0
            · have hst := hide (cdp_zero L (unhide hiL) (by rw [← unhide HX]; exact hx0))
              subst hx0
              go_wp2_with fail
              go_roundw
              case rel => exact ⟨i + 1, by omega, by go_num, by rw [← unhide hst]; exact (unhide HM).stored i _ (by omega) (by omega), hbel.setCell (by simp) _⟩
              case measure => simp [intOf]; omega
            · have hst := hide (cdp_pos L (unhide hiL) (by rw [← unhide HX]; omega))
              have hx0' : (x == 0) = false := by simpa using hx0
              go_wp2_with fail
              go_roundw
              case rel => exact ⟨i + 1, by omega, by go_num, by rw [← unhide hst]; exact unhide HM, hbel⟩
              case measure => simp [intOf]; omega
          · have hin2 := hide (show i = L.length by rw [unhide hlen]; omega)
            clear hmine
            go_wp2_with fail
            go_ret2
            refine ⟨⟨_, _, _, by rw [unhide HE]; rfl, ?_⟩, hbel⟩
            have := (unhide HM)
            rw [unhide hin2, cdp_end (unhide hg).fit] at this
            rw [unhide hcd]
            exact this
  · have he' : (cer L != 0) = true := by simpa using he
    have hcd := hide (show cdd L = [] by unfold cdd; rw [if_neg he])
    clear he
    generalize whole L = WB
    go_wp2_with fail
    go_ret2
    exact ⟨⟨_, _, _, rfl, by rw [unhide hcd]; exact IMine.nought _ _⟩, Below.refl _ _⟩

theorem codes_ref (ao : Option Addr) (n c : Nat) (L : List Int) (w : World) (h : Is w ao n c L) :
    Calls Tryz.prog 81 #[.slice ao n c] w fun e w' => (∃ ao1 n1 c1, e = .returned (.tuple #[.slice ao1 n1 c1, .int .i64 (cer L)]) ∧ Is w' ao1 n1 c1 (cdd L)) ∧ Below w.heap.size w w' := by
  refine (codes_own ao n c L w h).mono ?_
  rintro e w' ⟨⟨a1, n1, c1, rfl, m⟩, b⟩
  exact ⟨⟨a1, n1, c1, rfl, m.is⟩, b⟩

end Go.Proofs.YtnoabdafmgmenaaGreatDoor
