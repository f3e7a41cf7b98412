/-
  What Join of package packet returns: the plain function joinR. Conditions: at most a million bytes.
-/
import Derived.Test.YtoblnmbbdhagbaaPktSplit
namespace Go.Proofs.Ytoblnmbbdhagbaa
open Go.RowKit
set_option linter.unusedVariables false
set_option linter.unusedSimpArgs false

theorem lp_count (M L : Int) : ∀ (f : Nat) (s : PS) (t : List Pk), (lp M L f s t).2.1.length ≤ t.length + s.held.length
  | 0, s, t => by simp [lp]
  | f + 1, s, t => by
    simp only [lp]
    split
    · simp
    · split
      · simp
      · split
        · simp
        · split
          · refine Nat.le_trans (lp_count M L f _ _) ?_
            simp only [tkF, List.length_append, List.length_drop, List.length_cons, List.length_nil]
            omega
          · refine Nat.le_trans (lp_count M L f _ _) ?_
            simp only [tkF, List.length_drop]
            omega
theorem lp_told (M L : Int) : ∀ (f : Nat) (s : PS) (t : List Pk), Sok M L s → Byt s.held → (∀ p ∈ t, (p.2.2.length : Int) ≤ L) → ∀ p ∈ (lp M L f s t).2.1, (p.2.2.length : Int) ≤ L
  | 0, s, t, _, _, h => by simpa [lp] using h
  | f + 1, s, t, hs, hb, h => by
    simp only [lp]
    split
    · exact h
    · split
      · exact h
      · split
        · exact h
        · rename_i _ he _
          have he' : hdE M L s = 0 := by simpa using he
          have ht := hs.tk hb he'
          split
          · refine lp_told M L f _ _ ht.nobody (by simp only [tkF]; exact hb.drop _) (fun p hp => ?_)
            rcases List.mem_append.1 hp with hp | hp
            · exact h p hp
            · simp only [List.mem_singleton] at hp
              subst hp
              exact ht.bl
          · exact lp_told M L f _ _ ht (by simp only [tkF]; exact hb.drop _) h
theorem feed_count (M L : Int) (s : PS) (b : List Int) : (feed M L s b).2.1.length ≤ s.held.length + b.length := by
  unfold feed
  split
  · simp
  · refine Nat.le_trans (lp_count M L _ _ _) ?_
    simp
theorem feed_told (M L : Int) (s : PS) (b : List Int) (hs : Sok M L s) (hh : Byt s.held) (hb : Byt b) (hl : s.held.length + b.length ≤ 2000000000) : ∀ p ∈ (feed M L s b).2.1, (p.2.2.length : Int) ≤ L := by
  unfold feed
  split
  · intro p hp; cases hp
  · exact lp_told M L _ _ _ ⟨hs.m0, hs.m1, hs.l0, hs.l1, hs.n0, hs.n1, hs.bl, by simpa using hl, hs.w0, hs.w1⟩ (hh.app hb) (fun p hp => by cases hp)

/-- How many bytes the payloads have in frames. -/
def smf (M : Int) (t : List Pk) : Int := (t.map fun p => szf p.2.2.length M).sum
theorem smf_next (M : Int) (t : List Pk) (i : Nat) (p : Pk) (h : t[i]? = some p) : smf M (t.take (i + 1)) = smf M (t.take i) + szf p.2.2.length M := by
  unfold smf
  rw [List.take_add_one, h]
  simp
/-- The state that Join begins with. -/
def jnS (b : List Int) : PS := if 4 ≤ b.length then { ps0 with nx := b.getD 3 0 } else ps0
/-- What Join answers. -/
def joinR (M L : Int) (b : List Int) : List Pk × Int × Int :=
  if ¬ (1 ≤ M ∧ M ≤ 16777215 ∧ 0 ≤ L ∧ L ≤ 1073741824) then ([], 0, 2)
  else ((feed M L (jnS b) b).2.1, smf M (feed M L (jnS b) b).2.1, if (feed M L (jnS b) b).2.2 = 0 ∧ smf M (feed M L (jnS b) b).2.1 < b.length then 4 else (feed M L (jnS b) b).2.2)
/-- Packets, a number, an error. -/
def OutJ (w : World) (R : List Pk × Int × Int) (e : Ending) (w' : World) : Prop :=
  ∃ to tn tc l, e = .returned (.tuple #[.slice to tn tc, .int .i64 R.2.1, .int .i64 R.2.2]) ∧ Pks w' to tn tc l ∧ l.map pl = R.1 ∧ Below w.heap.size w w'

theorem feed_err_range (M L : Int) (s : PS) (b : List Int) : 0 ≤ (feed M L s b).2.2 ∧ (feed M L s b).2.2 ≤ 100 := by
  have key : ∀ (f : Nat) (s : PS) (t : List Pk), 0 ≤ (lp M L f s t).2.2 ∧ (lp M L f s t).2.2 ≤ 100 := by
    intro f
    induction f with
    | zero => intro s t; simp [lp]
    | succ f ih =>
      intro s t
      simp only [lp]
      split
      · simp
      · split
        · exact hdE_range M L s
        · split
          · simp
          · split
            · exact ih _ _
            · exact ih _ _
  unfold feed
  split
  · simp
  · exact key _ _ _

/-- The end of Join, behind Feed. -/
def OutK (w : World) (B : Nat) (to : Option Addr) (tn tc : Nat) (l : List Pm) (N E : Int) (e : Ending) (w' : World) : Prop :=
  e = .returned (.tuple #[.slice to tn tc, .int .i64 N, .int .i64 E]) ∧ Pks w' to tn tc l ∧ Below B w w'

set_option maxHeartbeats 4000000 in
set_option maxRecDepth 20000 in
theorem join_any (ao : Option Addr) (n c : Nat) (bs : List Int) (M L : Int) (w : World) (h : Bs w ao n c bs) (hn : n ≤ 1000000) :
    Calls Try.prog 15 #[.slice ao n c, .int .i64 M, .int .i64 L] w fun e w' => OutJ w (joinR M L bs) e w' := by
  obtain ⟨R, hR⟩ : ∃ R, R = joinR M L bs := ⟨_, rfl⟩
  rw [← hR]
  have hlen := h.len
  have hle := h.le
  have hmx := h.max
  by_cases a1 : 1 ≤ M ∧ M ≤ 16777215 ∧ 0 ≤ L ∧ L ≤ 1073741824
  · have cn := hide (new_ok M L w a1.1 a1.2.1 a1.2.2.1 a1.2.2.2)
    obtain ⟨F, hF⟩ : ∃ F, F = feed M L (jnS bs) bs := ⟨_, rfl⟩
    have hFc : F.2.1.length ≤ (jnS bs).held.length + bs.length := by rw [hF]; exact feed_count M L _ _
    have hj0 : (jnS bs).held = [] := by unfold jnS; split <;> rfl
    have hjok : Sok M L (jnS bs) := by
      have h0 := sok0 (M := M) (L := L) a1.1 a1.2.1 a1.2.2.1 a1.2.2.2
      unfold jnS
      split
      · have := h.byt.at 3
        have e : bs.getD 3 0 = bs[3]?.getD 0 := by simp
        exact ⟨h0.m0, h0.m1, h0.l0, h0.l1, by simp only [e]; omega, by simp only [e]; omega, h0.bl, h0.hl, h0.w0, h0.w1⟩
      · exact h0
    have hFt : ∀ p ∈ F.2.1, (p.2.2.length : Int) ≤ L := by rw [hF]; exact feed_told M L _ _ hjok (by rw [hj0]; exact Byt.nil) h.byt (by rw [hj0]; simp; omega)
    have hFe : 0 ≤ F.2.2 ∧ F.2.2 ≤ 100 := by rw [hF]; exact feed_err_range M L _ _
    rw [hj0, List.length_nil, Nat.zero_add, hlen] at hFc
    have hR' : R = (F.2.1, smf M F.2.1, if F.2.2 = 0 ∧ smf M F.2.1 < n then 4 else F.2.2) := by
      rw [hR]; unfold joinR; rw [if_neg (by simp; omega), ← hF, hlen]
    have HB := hide h
    have HFc := hide hFc
    have HFt := hide hFt
    have HR := hide hR'
    have hm0 := a1.1
    have hm1 := a1.2.1
    have hl1 := a1.2.2.2
    have feeds := hide (show ∀ w2, Bs w2 ao n c bs → Rd w2 w.heap.size M L none 0 none 0 (jnS bs) → Calls Try.prog 12 #[.pointer (some ⟨w.heap.size, 0, none⟩), .slice ao n c] w2 fun e w' => OutF w2 w.heap.size M L none none F e w' by
      intro w2 b2 r2
      rw [hF]
      exact feed_any w2 r2 ao n c bs b2 (by omega) (by rw [hj0]; simp))
    have TAIL := hide (show True from trivial)
    clear hF hFc hFt hR' hR hj0 hjok a1
    by_cases a4 : 4 ≤ n
    · obtain ⟨b3, o3, hix, hcx⟩ := h.idx (show 3 < n by omega) (3 : Int) rfl
      have hby := h.byt.at 3
      have HJ := hide (show jnS bs = { ps0 with nx := bs[3]?.getD 0 } by unfold jnS; rw [if_pos (by omega)]; simp)
      have a4' : (4 : Int) ≤ (n : Int) := by omega
      clear h hlen
      generalize bs[3]?.getD 0 = d at *
      have HCX := hide hcx
      clear hcx
      go_enter Try.func15, Try.ntmps15
      go_wp2_with (first
        | (go_at_call 11; refine (unhide cn).mono ?_; rintro e w1 ⟨rfl, r1, b1⟩; have c2 := r1.rl.c2; have f2 := r1.rl.free 2; have hcx := cell_later b1 (unhide HCX); have R2 := hide (r1.numbered d hby.1 hby.2); have gs : w.heap.size < w1.heap.size := r1.rl.lt; have B1 := hide b1; have BB := hide ((unhide HB).later b1); clear r1 b1))
      have BL2 : Below w.heap.size w (w1.setCell ⟨w.heap.size, 2, none⟩ (.int .u8 d)) := (unhide B1).setCell (Nat.le_refl _) _
      refine (unhide feeds _ ((unhide HB).later BL2) (by rw [unhide HJ]; exact unhide R2)).mono ?_
      rintro e w3 ⟨to, tn, tc, l, bo', bc', ho', hc', rfl, hp, hpl, hr, hfs⟩
      have PK := hide hp
      have HPL := hide hpl
      have B3 := hide (BL2.trans (hfs.below (by simp; omega) (fun k q => by rcases q with q | q | q; omega; exact absurd q ob_none; exact absurd q ob_none)))
      clear hp hpl hr hfs feeds c2 f2 hcx R2 BB BL2
      go_wp2_with fail
      have hcn : tn ≤ n := by rw [← (unhide PK).len, ← List.length_map (f := pl), unhide HPL]; exact unhide HFc
      have hpc := (unhide PK).le
      have hpm := (unhide PK).max
      go_loopw [12, 41] (fun nv iv ws => ∃ (i : Nat) (N : Int), i ≤ tn ∧ iv = .int .i64 (i : Int) ∧ nv = .int .i64 N ∧ N = smf M (F.2.1.take i) ∧ 0 ≤ N ∧ N ≤ i * 10000000000 ∧ Pks ws to tn tc l ∧ Below w.heap.size w ws) (fun _ iv _ => tn - (intOf iv).toNat)
      case atStart => exact ⟨0, 0, Nat.zero_le _, rfl, rfl, rfl, by omega, by omega, unhide PK, unhide B3⟩
      case round =>
        clear PK B3
        obtain ⟨i, N, hi, rfl, rfl, hN, hN0, hN1, hP, hW⟩ := hrel
        by_cases ai : i < tn
        · have ai' : (i : Int) < (tn : Int) := by omega
          obtain ⟨p, hp⟩ : ∃ p, l[i]? = some p := ⟨_, List.getElem?_eq_getElem (show i < l.length by rw [hP.len]; exact ai)⟩
          obtain ⟨bb, oo, hix, d0, d1, d2⟩ := hP.idx hp (i : Int) rfl
          have hpt : F.2.1[i]? = some (pl p) := by rw [← unhide HPL, List.getElem?_map, hp]; rfl
          have hpb : (p.bs.length : Int) ≤ L := unhide HFt (pl p) (List.mem_of_getElem? hpt)
          have hnx := hide (smf_next M F.2.1 i (pl p) hpt)
          have cz := hide (fun w => sizeInFrames_any (p.bs.length : Int) M w (by omega) (by omega) hm0 hm1)
          have hz := frm_le (p.bs.length : Int) M (by omega) hm0
          have hz0 : 0 ≤ szf (p.bs.length : Int) M ∧ szf (p.bs.length : Int) M ≤ 10000000000 := by unfold szf; omega
          rw [show (pl p).2.2.length = p.bs.length from rfl, ← hN] at hnx
          have hPb := (hP.bod p (List.mem_of_getElem? hp)).le
          have hPm := (hP.bod p (List.mem_of_getElem? hp)).max
          generalize szf (p.bs.length : Int) M = Z at *
          have HP := hide hP
          have HW := hide hW
          have hNb : N ≤ 100000000000000000 := by omega
          have hN1' := hide hN1
          have hzz := hide hz0
          clear hpt hpb hz hP hW hN hp
          generalize p.bs.length = PL at *
          go_wp2_with (first
            | (go_at_call 31; refine same_world (unhide cz _) ?_))
          go_roundw
          case rel =>
            refine ⟨i + 1, N + Z, by omega, by go_num, rfl, (unhide hnx).symm, by omega, by have := unhide hN1'; omega, (unhide HP).later (below_alloc wr _), (unhide HW).trans ((below_alloc wr _).mono (unhide HW).size)⟩
          case measure => simp [intOf]; omega
        · have hie : i = tn := by omega
          subst hie
          have HP := hide hP
          have HW := hide hW
          have hNs := hide (show N = smf M F.2.1 by rw [hN, List.take_of_length_le (by rw [← unhide HPL, List.length_map, hP.len]; exact Nat.le_refl _)])
          have hNb : N ≤ 100000000000000000 := by omega
          clear hP hW hN
          obtain ⟨E, hE⟩ : ∃ E, E = F.2.2 := ⟨_, rfl⟩
          rw [← hE] at hFe ⊢
          have HE := hide hE
          clear hE
          by_cases ae : E = 0
          · by_cases an : N < (n : Int)
            · have HRx := hide (show R = (F.2.1, N, 4) by rw [unhide HR, ← unhide hNs, ← unhide HE, if_pos ⟨ae, an⟩])
              subst ae
              go_wp2_with fail
              go_ret3
              rw [unhide HRx]
              exact ⟨to, i, tc, l, rfl, unhide HP, unhide HPL, unhide HW⟩
            · have HRx := hide (show R = (F.2.1, N, 0) by rw [unhide HR, ← unhide hNs, ← unhide HE, if_neg (fun q => an q.2), ae])
              subst ae
              go_wp2_with fail
              go_ret3
              rw [unhide HRx]
              exact ⟨to, i, tc, l, rfl, unhide HP, unhide HPL, unhide HW⟩
          · have be : (E == 0) = false := by rw [beq_eq_false_iff_ne]; exact ae
            have HRx := hide (show R = (F.2.1, N, E) by rw [unhide HR, ← unhide hNs, ← unhide HE, if_neg (fun q => ae q.1)])
            clear ae
            go_wp2_with fail
            go_ret3
            rw [unhide HRx]
            exact ⟨to, i, tc, l, rfl, unhide HP, unhide HPL, unhide HW⟩
    · have HJ := hide (show jnS bs = ps0 by unfold jnS; rw [if_neg (by omega)])
      have a4' : (n : Int) < 4 := by omega
      clear h hlen
      go_enter Try.func15, Try.ntmps15
      go_wp2_with (first
        | (go_at_call 11; refine (unhide cn).mono ?_; rintro e w1 ⟨rfl, r1, b1⟩; have R2 := hide r1; have gs : w.heap.size < w1.heap.size := r1.rl.lt; have B1 := hide b1; have BB := hide ((unhide HB).later b1); clear r1 b1)
        | (go_at_call 12; refine (unhide feeds _ (unhide BB) (by rw [unhide HJ]; exact unhide R2)).mono ?_; rintro e w3 ⟨to, tn, tc, l, bo', bc', ho', hc', rfl, hp, hpl, hr, hfs⟩; have PK := hide hp; have HPL := hide hpl; have B3 := hide ((unhide B1).trans (hfs.below (by omega) (fun k q => by rcases q with q | q | q; omega; exact absurd q ob_none; exact absurd q ob_none))); clear hp hpl hr hfs feeds R2 BB))
      have hcn : tn ≤ n := by rw [← (unhide PK).len, ← List.length_map (f := pl), unhide HPL]; exact unhide HFc
      have hpc := (unhide PK).le
      have hpm := (unhide PK).max
      go_loopw [12, 41] (fun nv iv ws => ∃ (i : Nat) (N : Int), i ≤ tn ∧ iv = .int .i64 (i : Int) ∧ nv = .int .i64 N ∧ N = smf M (F.2.1.take i) ∧ 0 ≤ N ∧ N ≤ i * 10000000000 ∧ Pks ws to tn tc l ∧ Below w.heap.size w ws) (fun _ iv _ => tn - (intOf iv).toNat)
      case atStart => exact ⟨0, 0, Nat.zero_le _, rfl, rfl, rfl, by omega, by omega, unhide PK, unhide B3⟩
      case round =>
        clear PK B3
        obtain ⟨i, N, hi, rfl, rfl, hN, hN0, hN1, hP, hW⟩ := hrel
        by_cases ai : i < tn
        · have ai' : (i : Int) < (tn : Int) := by omega
          obtain ⟨p, hp⟩ : ∃ p, l[i]? = some p := ⟨_, List.getElem?_eq_getElem (show i < l.length by rw [hP.len]; exact ai)⟩
          obtain ⟨bb, oo, hix, d0, d1, d2⟩ := hP.idx hp (i : Int) rfl
          have hpt : F.2.1[i]? = some (pl p) := by rw [← unhide HPL, List.getElem?_map, hp]; rfl
          have hpb : (p.bs.length : Int) ≤ L := unhide HFt (pl p) (List.mem_of_getElem? hpt)
          have hnx := hide (smf_next M F.2.1 i (pl p) hpt)
          have cz := hide (fun w => sizeInFrames_any (p.bs.length : Int) M w (by omega) (by omega) hm0 hm1)
          have hz := frm_le (p.bs.length : Int) M (by omega) hm0
          have hz0 : 0 ≤ szf (p.bs.length : Int) M ∧ szf (p.bs.length : Int) M ≤ 10000000000 := by unfold szf; omega
          rw [show (pl p).2.2.length = p.bs.length from rfl, ← hN] at hnx
          have hPb := (hP.bod p (List.mem_of_getElem? hp)).le
          have hPm := (hP.bod p (List.mem_of_getElem? hp)).max
          generalize szf (p.bs.length : Int) M = Z at *
          have HP := hide hP
          have HW := hide hW
          have hNb : N ≤ 100000000000000000 := by omega
          have hN1' := hide hN1
          have hzz := hide hz0
          clear hpt hpb hz hP hW hN hp
          generalize p.bs.length = PL at *
          go_wp2_with (first
            | (go_at_call 31; refine same_world (unhide cz _) ?_))
          go_roundw
          case rel =>
            refine ⟨i + 1, N + Z, by omega, by go_num, rfl, (unhide hnx).symm, by omega, by have := unhide hN1'; omega, (unhide HP).later (below_alloc wr _), (unhide HW).trans ((below_alloc wr _).mono (unhide HW).size)⟩
          case measure => simp [intOf]; omega
        · have hie : i = tn := by omega
          subst hie
          have HP := hide hP
          have HW := hide hW
          have hNs := hide (show N = smf M F.2.1 by rw [hN, List.take_of_length_le (by rw [← unhide HPL, List.length_map, hP.len]; exact Nat.le_refl _)])
          have hNb : N ≤ 100000000000000000 := by omega
          clear hP hW hN
          obtain ⟨E, hE⟩ : ∃ E, E = F.2.2 := ⟨_, rfl⟩
          rw [← hE] at hFe ⊢
          have HE := hide hE
          clear hE
          by_cases ae : E = 0
          · by_cases an : N < (n : Int)
            · have HRx := hide (show R = (F.2.1, N, 4) by rw [unhide HR, ← unhide hNs, ← unhide HE, if_pos ⟨ae, an⟩])
              subst ae
              go_wp2_with fail
              go_ret3
              rw [unhide HRx]
              exact ⟨to, i, tc, l, rfl, unhide HP, unhide HPL, unhide HW⟩
            · have HRx := hide (show R = (F.2.1, N, 0) by rw [unhide HR, ← unhide hNs, ← unhide HE, if_neg (fun q => an q.2), ae])
              subst ae
              go_wp2_with fail
              go_ret3
              rw [unhide HRx]
              exact ⟨to, i, tc, l, rfl, unhide HP, unhide HPL, unhide HW⟩
          · have be : (E == 0) = false := by rw [beq_eq_false_iff_ne]; exact ae
            have HRx := hide (show R = (F.2.1, N, E) by rw [unhide HR, ← unhide hNs, ← unhide HE, if_neg (fun q => ae q.1)])
            clear ae
            go_wp2_with fail
            go_ret3
            rw [unhide HRx]
            exact ⟨to, i, tc, l, rfl, unhide HP, unhide HPL, unhide HW⟩
  · have cn := hide (new_bad M L w a1)
    have HR := hide (show R = ([], 0, 2) by rw [hR]; unfold joinR; rw [if_pos a1])
    clear a1 h hR
    go_enter Try.func15, Try.ntmps15
    go_wp2_with (first
      | (go_at_call 11; refine same_world (unhide cn) ?_))
    go_ret3
    rw [unhide HR]
    exact ⟨none, 0, 0, [], rfl, Pks.nought _, rfl, Below.refl _ _⟩

end Go.Proofs.Ytoblnmbbdhagbaa
