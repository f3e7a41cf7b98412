/-
  What begun and Inflate, of package inflate, answer for any bytes. They write nothing that was there. Conditions: at most a million bytes, a limit from 0 to a million; the tables hold what the program's text says.
-/
import Derived.Test.YtalkeooejobjhaaDoorInfBlock
namespace Go.Proofs.YtalkeooejobjhaaDoor
open Go.RowKit
set_option linter.unusedVariables false
set_option linter.unusedSimpArgs false

set_option maxHeartbeats 1000000 in
theorem begun_any (w : World) (bo : Option Addr) (bn bc : Nat) (bs : List Int) (m : Int) (hb : Bs w bo bn bc bs) (hv : Vars w) (hn : bn ≤ 1000000) (m0 : 0 ≤ m) (m1 : m ≤ 1000000) :
    Calls Tryd.prog 18 #[.slice bo bn bc, .int .i64 m] w fun e w' => e = .returned (.pointer (some ⟨w.heap.size, 0, none⟩)) ∧ St ⟨bo, bn, bc, bs, m⟩ w.heap.size w' .none 0 ⟨0, 0, []⟩ false ∧ Below w.heap.size w w' := by
  have hle := hb.le
  have hmx := hb.max
  have hbl := hb.len
  have HB := hide hb
  have HV := hide hv
  clear hb hv
  have m0' : ¬ m < 0 := by omega
  go_enter Tryd.func18, Tryd.ntmps18
  go_wp2_with fail
  go_ret
  refine ⟨rfl, ⟨heap_alloc_new w _, Mine.nought _ _, fun w1 f => (unhide HB).later ((below_alloc w _).trans f), (unhide HV).later (Nat.le_refl 3) ((below_alloc w _).mono (unhide HV).size), (unhide HV).size, ⟨by simp, by simp, by simp, by simp, hn, m0, m1, hle, hmx, hbl⟩⟩, below_alloc w _⟩

theorem fldN_p {b : List Int} : ∀ {n : Nat} {s : PS}, (fldN b n s).2.e = 0 → (fldN b n s).2.p = s.p + n
  | 0, s, h => rfl
  | n + 1, s, h => by
    have hl := nice_bit.live (b := b) (m := 0) (s := (fldN b n s).2) h
    have ih := fldN_p (b := b) (n := n) (s := s) hl
    simp only [fldN] at h ⊢
    by_cases hs : (fldN b n s).2.p / 8 < b.length
    · rw [bitS_live hl hs]
      simp only [ih]
      omega
    · rw [bitS_short hl hs] at h
      simp at h
theorem blk_p {F : Nat} {b : List Int} {m : Int} {s : PS} (h : (blkS F b m s).e = 0) : s.e = 0 ∧ (hd1 b s).2.e = 0 ∧ (hd2 b s).2.e = 0 ∧ s.p + 3 ≤ (blkS F b m s).p ∧ (hd2 b s).1 ≤ 2 := by
  have h2 : (hd2 b s).2.e = 0 := (nice_knd F (hd2 b s).1).live (b := b) (m := m) h
  have h1 : (hd1 b s).2.e = 0 := (nice_fld 2).live (b := b) (m := 0) h2
  have h0 : s.e = 0 := (nice_fld 1).live (b := b) (m := 0) h1
  have p1 : (hd1 b s).2.p = s.p + 1 := fldN_p h1
  have p2 : (hd2 b s).2.p = (hd1 b s).2.p + 2 := fldN_p h2
  have up := (nice_knd F (hd2 b s).1).up b m (hd2 b s).2 h2 h
  have bd := fldN_bd b 2 (hd1 b s).2
  refine ⟨h0, h1, h2, ?_, ?_⟩
  · have : (hd2 b s).2.p ≤ (blkS F b m s).p := up.1
    omega
  · by_cases h3 : (hd2 b s).1 = 3
    · exfalso
      unfold blkS at h
      rw [h3] at h
      exact absurd h (stopS_e 5 _ (by omega))
    · have : (hd2 b s).1 < 2 ^ 2 := bd.2
      omega

def ovAt (g : Nat) (w : World) : Bool := match w.cell? ⟨g, 5, none⟩ with | some (.bool z) => z | _ => true
section
variable {E : Env} {g : Nat} {w0 : World} {oo : Option Addr} {oc : Nat} {s : PS} {ov : Bool}
theorem St.ovAt (h : St E g w0 oo oc s ov) : ovAt g w0 = ov := by unfold Proofs.YtalkeooejobjhaaDoor.ovAt; rw [h.c5]

/-- How much is left to be read. -/
def msI (g K : Nat) (w : World) : Nat := if ovAt g w = false ∧ errAt g w = 0 then K + 1 - (posAt g w).toNat else 0
theorem msI_on (h : St E g w0 oo oc s ov) (ho : ov = false) (he : s.e = 0) : msI g (8 * E.bn) w0 = 8 * E.bn + 1 - s.p := by
  unfold msI
  rw [h.ovAt, h.errAt, h.posAt, if_pos ⟨ho, he⟩]
  simp
theorem msI_lt (h : St E g w0 oo oc s ov) {p : Nat} (hp : p ≤ 8 * E.bn) (hs : s.e = 0 → p + 1 ≤ s.p) : msI g (8 * E.bn) w0 < 8 * E.bn + 1 - p := by
  unfold msI
  rw [h.ovAt, h.errAt, h.posAt]
  split
  · rename_i q
    have := hs q.2
    have := h.fit.p
    simp only [Int.toNat_natCast]
    omega
  · omega
/-- What holds at the loop's head. -/
def RelI (E : Env) (F : Nat) (w : World) (R : List Blk × PS) (wr : World) : Prop :=
  ∃ (t : PS) (f : Nat) (ov : Bool) (l : List Blk) (oo : Option Addr) (oc : Nat), allS F E.bs E.m f ov l t = R ∧ (t.e = 0 → 8 * E.bn + 1 ≤ f + t.p) ∧ St E w.heap.size wr oo oc t ov ∧ Below w.heap.size w wr
end

theorem allS_end {F : Nat} {b : List Int} {m : Int} {ov : Bool} {l : List Blk} {s : PS} (h : ¬ (ov = false ∧ s.e = 0)) : ∀ f, allS F b m f ov l s = (l, s)
  | 0 => rfl
  | f + 1 => by simp only [allS]; exact if_neg h
theorem allS_on {F : Nat} {b : List Int} {m : Int} {ov : Bool} {l : List Blk} {s : PS} (ho : ov = false) (he : s.e = 0) (f : Nat) : allS F b m (f + 1) ov l s = allS F b m f (blkV F b m s).last (l ++ [blkV F b m s]) (blkS F b m s) := by
  simp only [allS]
  exact if_pos ⟨ho, he⟩

/-- What Inflate answers. -/
def infR (r : List Blk × PS) : List Int × Int × Int := if r.2.e = 0 then (r.2.o, ((r.2.p : Int) + 7) / 8, 0) else ([], 0, r.2.e)
def OutI (w : World) (r : List Int × Int × Int) (e : Ending) (w' : World) : Prop :=
  ∃ ao n c, e = .returned (.tuple #[.slice ao n c, .int .i64 r.2.1, .int .i64 r.2.2]) ∧ Mine w.heap.size w' ao n c r.1 ∧ Below w.heap.size w w'

set_option maxHeartbeats 2000000 in
theorem inflate_any (F : Nat) (w : World) (bo : Option Addr) (bn bc : Nat) (bs : List Int) (m : Int) (hb : Bs w bo bn bc bs) (hv : Vars w) (hn : bn ≤ 1000000) (m0 : 0 ≤ m) (m1 : m ≤ 1000000) (hF : 8 * bn + 1 ≤ F) :
    Calls Tryd.prog 12 #[.slice bo bn bc, .int .i64 m] w fun e w' => OutI w (infR (infS F bs m)) e w' := by
  have bc_ := hide (begun_any w bo bn bc bs m hb hv hn m0 m1)
  clear hb hv
  generalize hE : (⟨bo, bn, bc, bs, m⟩ : Env) = E at bc_
  have hE1 : E.bs = bs := by rw [← hE]
  have hE2 : E.m = m := by rw [← hE]
  have hE3 : E.bn = bn := by rw [← hE]
  generalize hR : infS F bs m = R
  have HR := hide (show allS F E.bs E.m F false [] ⟨0, 0, []⟩ = R by rw [hE1, hE2]; exact hR)
  rw [← hE3] at hF
  clear hE1 hE2 hR
  have hE3' := hide hE3
  have HE := hide hE
  clear hE hE3
  go_enter Tryd.func12, Tryd.ntmps12
  go_wp2_with fail
  refine (unhide bc_).mono ?_
  rintro e w1 ⟨rfl, s1, b1⟩
  have S1 := hide s1
  clear s1
  go_wp2_with fail
  go_loopw [] (fun wr => RelI E F w R wr) (fun wr => msI w.heap.size (8 * E.bn) wr)
  case atStart => exact ⟨⟨0, 0, []⟩, F, false, [], .none, 0, unhide HR, fun _ => by simp; omega, unhide S1, b1⟩
  case round =>
    obtain ⟨t, f, ov, l, oo, oc, ha, hf, st, bl⟩ := hrel
    have gc := hide (goesOn_any wr st)
    have c1 := st.c1
    have c2 := st.c2
    have c4 := st.c4
    have hp := st.fit.p
    have hbn := st.fit.bn
    have ST := hide st
    have HA := hide ha
    clear ha st
    by_cases hg : ov = false ∧ t.e = 0
    · have hms := hide (msI_on (unhide ST) hg.1 hg.2)
      have hfa := hf hg.2
      obtain ⟨f', hf'⟩ : ∃ f', f = f' + 1 := ⟨f - 1, by omega⟩
      subst hf'
      have hnx := hide (show allS F E.bs E.m f' (blkV F E.bs E.m t).last (l ++ [blkV F E.bs E.m t]) (blkS F E.bs E.m t) = R by rw [← unhide HA, allS_on hg.1 hg.2])
      have bk := hide (block_any F wr hF (unhide ST))
      have hd : decide (ov = false ∧ t.e = 0) = true := by simpa using hg
      rw [hd] at gc
      have up := hide (fun q => (blk_p (F := F) (b := E.bs) (m := E.m) (s := t) q).2.2.2.1)
      clear hd hf hg
      go_wp2_with fail
      refine same_world (unhide gc) ?_
      go_wp2_with fail
      refine (unhide bk).mono ?_
      rintro e w2 ⟨rfl, oo2, oc2, s2, f2⟩
      have B2 := hide (bl.trans ((unhide ST).below f2))
      have hm2 := hide (msI_lt s2 hp (fun q => by have := unhide up q; omega))
      have S2 := hide s2
      clear s2 f2
      go_wp2_with fail
      go_roundw
      case rel => exact ⟨_, f', _, _, oo2, oc2, unhide hnx, fun q => by have := unhide up q; omega, unhide S2, unhide B2⟩
      case measure => rw [unhide hms]; exact unhide hm2
    · have hd : decide (ov = false ∧ t.e = 0) = false := by simpa using hg
      rw [hd] at gc
      have hR := hide (show R = (l, t) by rw [← unhide HA]; exact allS_end hg f)
      clear hd hg hf
      by_cases he : t.e = 0
      · have he' : (t.e != 0) = false := by simpa using he
        have hfin := hide (show infR R = (t.o, ((t.p : Int) + 7) / 8, 0) by rw [unhide hR]; exact if_pos he)
        go_wp2_with fail
        refine same_world (unhide gc) ?_
        go_wp2_with fail
        go_quiet (fail)
        go_wp2_with fail
        go_ret3
        rw [unhide hfin]
        exact ⟨oo, _, oc, rfl, ((unhide ST).out.mono (by omega)).later ⟨rfl, rfl, rfl, Nat.le_refl _, fun _ _ => rfl⟩, bl.trans ⟨rfl, rfl, rfl, Nat.le_refl _, fun _ _ => rfl⟩⟩
      · have he' : (t.e != 0) = true := by simpa using he
        have hfin := hide (show infR R = ([], 0, t.e) by rw [unhide hR]; exact if_neg he)
        go_wp2_with fail
        refine same_world (unhide gc) ?_
        go_wp2_with fail
        go_quiet (fail)
        go_wp2_with fail
        go_ret3
        rw [unhide hfin]
        exact ⟨.none, 0, 0, rfl, Mine.nought _ _, bl.trans ⟨rfl, rfl, rfl, Nat.le_refl _, fun _ _ => rfl⟩⟩

end Go.Proofs.YtalkeooejobjhaaDoor
