/-
  What Write of package huffman returns for any lengths and symbols. It writes nothing that was there. Conditions: the slices can be read, at most a thousand symbols.
-/
import Derived.Test.YtgphglghjpeojaaHufPut
namespace Go.Proofs.Ytgphglghjpeojaa
open Go.RowKit
set_option linter.unusedVariables false
set_option linter.unusedSimpArgs false

/-- Has symbol s no code? -/
def sbad (L : List Int) (s : Int) : Bool := decide (s < 0) || decide ((L.length : Int) ≤ s) || decide (ln L s.toNat = 0)
/-- The bits of a symbol, of symbols. -/
def sbits (L : List Int) (s : Int) : List Int := bto (code L s.toNat) (ln L s.toNat).toNat
def wtext (L : List Int) : List Int → List Int
  | [] => []
  | s :: r => sbits L s ++ wtext L r
theorem wtext_app (L : List Int) : ∀ a b, wtext L (a ++ b) = wtext L a ++ wtext L b
  | [], b => rfl
  | s :: a, b => by simp [wtext, wtext_app L a b]
theorem sbits_01 (L : List Int) (s : Int) : Bit01 (sbits L s) := bto_01 _ _
theorem wtext_01 (L : List Int) : ∀ ss, Bit01 (wtext L ss)
  | [] => by intro x hx; cases hx
  | s :: r => by
    intro x hx
    rcases List.mem_append.1 hx with h | h
    · exact sbits_01 L s x h
    · exact wtext_01 L r x h
theorem sgood {L : List Int} {s : Int} (h : sbad L s = false) : 0 ≤ s ∧ s < L.length ∧ ln L s.toNat ≠ 0 := by
  simp [sbad] at h
  omega
theorem sbits_len {L : List Int} (hG : Good L) {s : Int} (h : sbad L s = false) : ((sbits L s).length : Int) = ln L s.toNat ∧ 1 ≤ (sbits L s).length ∧ (sbits L s).length ≤ 15 := by
  have h1 := sgood h
  have h2 := hG.fit _ (ln_mem (show s.toNat < L.length by omega))
  unfold sbits
  rw [bto_len]
  omega
theorem wtext_le {L : List Int} (hG : Good L) : ∀ ss : List Int, (∀ x ∈ ss, sbad L x = false) → (wtext L ss).length ≤ 15 * ss.length
  | [], _ => by simp [wtext]
  | s :: r, h => by
    have h1 := sbits_len hG (h s (by simp))
    have h2 := wtext_le hG r (fun x hx => h x (by simp [hx]))
    simp only [wtext, List.length_append, List.length_cons]
    omega
/-- What Write answers. -/
def wrq (L ss : List Int) : List Int × Int × Int := if cer L = 0 then (if (ss.any (sbad L)) = true then ([], 0, 2) else (pkF [] 0 (wtext L ss), ((wtext L ss).length : Int), 0)) else ([], 0, cer L)

theorem any_at {p : Int → Bool} {ss : List Int} {i : Nat} (hi : i < ss.length) (h : p (ss[i]?.getD 0) = true) : ss.any p = true := by
  rw [List.any_eq_true]
  exact ⟨_, by simp [List.getElem?_eq_getElem hi], h⟩
theorem any_no {p : Int → Bool} {ss : List Int} (h : ∀ i, i < ss.length → p (ss[i]?.getD 0) = false) : ss.any p = false := by
  rw [List.any_eq_false]
  intro x hx
  obtain ⟨i, hi, rfl⟩ := List.getElem_of_mem hx
  have := h i hi
  simpa [List.getElem?_eq_getElem hi] using this

set_option maxHeartbeats 4000000 in
set_option maxRecDepth 20000 in
theorem write_any (ao : Option Addr) (n c : Nat) (L : List Int) (so : Option Addr) (m d : Nat) (ss : List Int) (w : World) (h : Is w ao n c L) (hs : Is w so m d ss) (hm : m ≤ 1000) :
    Calls Try.prog 18 #[.slice ao n c, .slice so m d] w fun e w' => (∃ ao1 n1 c1, e = .returned (.tuple #[.slice ao1 n1 c1, .int .i64 (wrq L ss).2.1, .int .i64 (wrq L ss).2.2]) ∧ Bs w' ao1 n1 c1 (wrq L ss).1) ∧ Below w.heap.size w w' := by
  have H := hide h
  have HS := hide hs
  have hlen := hide h.len
  have hslen := hide hs.len
  have hmax := h.max
  have hle := h.le
  have smax := hs.max
  have sle := hs.le
  have hsf := hide hs.fit
  clear h hs
  generalize hR : wrq L ss = R
  obtain ⟨r1, r2, r3⟩ := R
  have HR := hide hR
  clear hR
  go_enter Try.func18, Try.ntmps18
  go_wp2_with fail
  refine (codes_any _ _ _ _ _ (unhide H)).mono ?_
  rintro e w1 ⟨⟨ko, kn, kc, rfl, hk⟩, b1⟩
  have z1 := b1.size
  by_cases he : cer L = 0
  · have hg := hide (good_of he)
    have HE := hide he
    have hcd := hide (show cdd L = cds L by unfold cdd; rw [he]; rfl)
    rw [unhide hcd] at hk
    have HK := hide hk
    have hkn := hk.len
    rw [cds_len, unhide hlen] at hkn
    have hn320 : n ≤ 320 := by have := (unhide hg).len; rw [unhide hlen] at this; exact this
    subst hkn
    rw [he]
    clear hk he
    go_wp2_with fail
    go_loopw [4, 5, 20] (fun v t i wr => ∃ (k : Nat) (xo : Option Addr) (xn xc : Nat), k ≤ m ∧ i = .int .i64 k ∧ v = .slice xo xn xc ∧ t = .int .i64 ((wtext L (ss.take k)).length : Int) ∧ (∀ j, j < k → sbad L (ss[j]?.getD 0) = false) ∧ Mine w1.heap.size wr xo xn xc (pkF [] 0 (wtext L (ss.take k))) ∧ Below w1.heap.size w1 wr) (fun _ _ i _ => m - (intOf i).toNat)
    case atStart => exact ⟨0, none, 0, 0, by omega, rfl, rfl, rfl, fun j hj => by omega, Mine.nought _ _, Below.refl _ _⟩
    case round =>
      obtain ⟨k, xo, xn, xc, hk, rfl, rfl, rfl, hgood, hmine, hbel⟩ := hrel
      have HGD := hide hgood
      have HM := hide hmine
      have bw : Below w.heap.size w wr := b1.trans (hbel.mono z1)
      have zr := hbel.size
      have hWst := hide (Wst.pk (wtext L (ss.take k)) Wst.nought (wtext_01 L _))
      have hall := hide (show ∀ x ∈ ss.take k, sbad L x = false from by
        intro x hx
        obtain ⟨i, hi, rfl⟩ := List.getElem_of_mem hx
        simp at hi
        have := hgood i (by omega)
        simpa [List.getElem?_eq_getElem (show i < ss.length by omega)] using this)
      have hle15 := wtext_le (unhide hg) _ (unhide hall)
      have ht : (wtext L (ss.take k)).length ≤ 15000 := by simp at hle15; omega
      clear hle15 hgood hmine
      by_cases hlt : k < m
      · obtain ⟨sb, sof, hsi, hsc⟩ := ((unhide HS).later bw).idx hlt (k : Int) rfl
        have hkL := hide (show k < ss.length by rw [unhide hslen]; exact hlt)
        have sfit := (unhide hsf).at k
        obtain ⟨s, hsv⟩ : ∃ s, s = ss[k]?.getD 0 := ⟨_, rfl⟩
        rw [← hsv] at hsc sfit
        have HSV := hide hsv
        clear hsv
        have htake := hide (show ss.take (k + 1) = ss.take k ++ [s] by rw [take_snoc (unhide hkL), unhide HSV]; rfl)
        generalize hT : (wtext L (ss.take k)).length = T at *
        by_cases hneg : s < 0
        · have hans := hide (show (r1, r2, r3) = ([], 0, 2) by rw [← unhide HR]; unfold wrq; rw [if_pos (unhide HE), if_pos (any_at (unhide hkL) (by rw [← unhide HSV]; simp [sbad, hneg]))])
          go_wp2_with fail
          go_ret3
          have ha := unhide hans
          simp only [Prod.mk.injEq] at ha
          obtain ⟨rfl, rfl, rfl⟩ := ha
          exact ⟨⟨_, _, _, rfl, Bs.nought _⟩, bw⟩
        · by_cases hbig : (n : Int) ≤ s
          · have hans := hide (show (r1, r2, r3) = ([], 0, 2) by rw [← unhide HR]; unfold wrq; rw [if_pos (unhide HE), if_pos (any_at (unhide hkL) (by rw [← unhide HSV]; simp [sbad, unhide hlen, hbig]))])
            go_wp2_with fail
            go_ret3
            have ha := unhide hans
            simp only [Prod.mk.injEq] at ha
            obtain ⟨rfl, rfl, rfl⟩ := ha
            exact ⟨⟨_, _, _, rfl, Bs.nought _⟩, bw⟩
          · obtain ⟨S, rfl⟩ : ∃ S : Nat, s = (S : Int) := ⟨s.toNat, by omega⟩
            have hSn : S < n := by omega
            have hSL := hide (show S < L.length by rw [unhide hlen]; exact hSn)
            obtain ⟨lb, lof, hli, hlc0⟩ := (unhide H).idx hSn (S : Int) rfl
            have hlc := cell_later bw hlc0
            have HLC := hide hlc0
            clear hlc0
            obtain ⟨cb, cof, hci, hcc⟩ := ((unhide HK).later hbel).idx hSn (S : Int) rfl
            rw [cds_at L (unhide hSL)] at hcc
            have hxf := (unhide hg).fit _ (ln_mem (unhide hSL))
            have hcb := code_bd (unhide hg) (unhide hSL)
            have hlnE := hide (show ln L S = L[S]?.getD 0 from rfl)
            rw [← unhide hlnE] at hlc HLC
            obtain ⟨x, hx⟩ : ∃ x, x = ln L S := ⟨_, rfl⟩
            rw [← hx] at hlc hxf HLC
            have HX := hide hx
            clear hx
            by_cases h0 : x = 0
            · have hans := hide (show (r1, r2, r3) = ([], 0, 2) by rw [← unhide HR]; unfold wrq; rw [if_pos (unhide HE), if_pos (any_at (unhide hkL) (by rw [← unhide HSV]; simp [sbad, ← unhide HX, h0]))])
              go_wp2_with fail
              go_ret3
              have ha := unhide hans
              simp only [Prod.mk.injEq] at ha
              obtain ⟨rfl, rfl, rfl⟩ := ha
              exact ⟨⟨_, _, _, rfl, Bs.nought _⟩, bw⟩
            · obtain ⟨X, rfl⟩ : ∃ X : Nat, x = (X : Int) := ⟨x.toNat, by omega⟩
              have hX15 : X ≤ 15 := by omega
              have hsb := hide (show sbad L (S : Int) = false by
                have h1 := unhide hSL
                have h2 := unhide HX
                simp [sbad]
                omega)
              have hcl := (code_lt L (unhide hSL) X (unhide HX).symm (by omega)).1
              have hc0 : 0 ≤ code L S := by have := fc_nonneg L X; omega
              have hbits := hide (show sbits L (S : Int) = bto (code L S) X by unfold sbits; simp [← unhide HX])
              obtain ⟨K, hKc⟩ : ∃ K, K = code L S := ⟨_, rfl⟩
              rw [← hKc] at hcc hcb hc0
              have HKC := hide hKc
              clear hKc hcl
              have hW2 := hide (show Wst (pkF [] 0 (wtext L (ss.take k))) T by have := unhide hWst; rw [Nat.zero_add] at this; exact this)
              have cA := hide (appendCode_any w1.heap.size xo xn xc _ T K X wr.drew (mine_drew (unhide HM)) (unhide hW2) (by omega) hc0 (by omega) hX15 zr)
              have hnew := hide (show pkF (pkF [] 0 (wtext L (ss.take k))) T (bto K X) = pkF [] 0 (wtext L (ss.take (k + 1))) by
                rw [unhide htake, wtext_app, pkF_app, Nat.zero_add, hT, unhide HKC]
                simp only [wtext, List.append_nil]
                rw [unhide hbits])
              have hlenN := hide (show ((wtext L (ss.take (k + 1))).length : Int) = (T : Int) + (X : Int) by
                rw [unhide htake, wtext_app, List.length_append, hT]
                simp only [wtext, List.append_nil]
                rw [unhide hbits, bto_len]
                omega)
              have hx0 : ((X : Int) == 0) = false := by simp; omega
              clear hT
              go_wp2_with fail
              go_region_with (go_at_call 28; refine (unhide cA).mono ?_; rintro e w2 ⟨⟨ao2, n2, c2, rfl, m2⟩, b2⟩)
              all_goals (
                have bel2 : Below w1.heap.size w1 w2 := hbel.drew.trans b2
                have bw2 : Below w.heap.size w w2 := b1.trans (bel2.mono z1)
                have hlc2 := cell_later bw2 (unhide HLC)
                rw [unhide hnew] at m2
                have M2 := hide m2
                clear m2 b2)
              all_goals go_wp2_with fail
              all_goals go_roundw
              all_goals first
                | (refine ⟨k + 1, ao2, n2, c2, by omega, by go_num, rfl, by rw [unhide hlenN], fun j hj => ?_, unhide M2, bel2⟩
                   by_cases hjk : j = k
                   · rw [hjk, ← unhide HSV]; exact unhide hsb
                   · exact unhide HGD j (by omega))
                | (simp [intOf] <;> omega)
      · have hans := hide (show (r1, r2, r3) = (pkF [] 0 (wtext L ss), ((wtext L ss).length : Int), 0) by
          rw [← unhide HR]; unfold wrq
          rw [if_pos (unhide HE), any_no (fun i hi => unhide HGD i (by rw [unhide hslen] at hi; omega)), if_neg (by simp)])
        have hT : ss.take k = ss := List.take_of_length_le (by rw [unhide hslen]; omega)
        rw [hT] at HM ht ⊢
        clear hT
        have ha := unhide hans
        simp only [Prod.mk.injEq] at ha
        obtain ⟨rfl, rfl, rfl⟩ := ha
        go_wp2_with fail
        go_ret3
        exact ⟨⟨_, _, _, rfl, (unhide HM).bs⟩, bw⟩
  · have he' : (cer L != 0) = true := by simpa using he
    have hans := hide (show (r1, r2, r3) = ([], 0, cer L) by rw [← unhide HR]; unfold wrq; rw [if_neg he])
    clear he
    go_wp2_with fail
    go_ret3
    have ha := unhide hans
    simp only [Prod.mk.injEq] at ha
    obtain ⟨rfl, rfl, rfl⟩ := ha
    exact ⟨⟨_, _, _, rfl, Bs.nought _⟩, b1⟩

end Go.Proofs.Ytgphglghjpeojaa
