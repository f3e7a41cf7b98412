/-
  What Write of the document's own answer returns for any lengths and symbols: the same plain function. It writes nothing that was there. Conditions: the slices can be read, at most a thousand symbols.
-/
import Derived.Test.YtgphglghjpeojaaHufRefWrite
namespace Go.Proofs.Ytgphglghjpeojaa
open Go.RowKit
set_option linter.unusedVariables false
set_option linter.unusedSimpArgs false

set_option maxHeartbeats 8000000 in
set_option maxRecDepth 20000 in
theorem write_ref (ao : Option Addr) (n c : Nat) (L : List Int) (so : Option Addr) (m d : Nat) (ss : List Int) (w : World) (h : Is w ao n c L) (hs : Is w so m d ss) (hm : m ≤ 1000) :
    Calls Try.prog 19 #[.slice ao n c, .slice so m d] w fun e w' => (∃ ao1 n1 c1, e = .returned (.tuple #[.slice ao1 n1 c1, .int .i64 (wrq L ss).2.1, .int .i64 (wrq L ss).2.2]) ∧ Bs w' ao1 n1 c1 (wrq L ss).1) ∧ Below w.heap.size w w' := by
  have H := hide h
  have HS := hide hs
  have hlen := hide h.len
  have hslen := hide hs.len
  have hmax := h.max
  have hle := h.le
  have smax := hs.max
  have sle := hs.le
  clear h hs
  generalize hR : wrq L ss = R
  obtain ⟨r1, r2, r3⟩ := R
  have HR := hide hR
  clear hR
  go_enter Try.func19, Try.ntmps19
  go_wp2_with fail
  refine (codes_ref _ _ _ _ _ (unhide H)).mono ?_
  rintro e w1 ⟨⟨ko, kn, kc, rfl, hk⟩, b1⟩
  have z1 := b1.size
  by_cases he : cer L = 0
  · have hg := hide (good_of he)
    have HE := hide he
    have hcd := hide (show cdd L = cds L by unfold cdd; rw [he]; rfl)
    rw [unhide hcd] at hk
    have HK := hide hk
    have hkn := hk.len
    rw [cds_len, unhide hlen] at hkn
    have hn320 : n ≤ 320 := by have := (unhide hg).len; rw [unhide hlen] at this; exact this
    subst hkn
    rw [he]
    clear hk he
    have HL1 := hide ((unhide H).later b1)
    have HS1 := hide ((unhide HS).later b1)
    go_wp2_with fail
    go_loop [9] (fun i => ∃ k : Nat, k ≤ m ∧ i = .int .i64 k ∧ (∀ j, j < k → sbad L (ss[j]?.getD 0) = false)) (fun i => m - (intOf i).toNat)
    case atStart => exact ⟨0, by omega, rfl, fun j hj => by omega⟩
    case round =>
      obtain ⟨k, hk, rfl, hgood⟩ := hrel
      have HGD := hide hgood
      clear hgood
      by_cases hlt : k < m
      · obtain ⟨sb, sof, hsi, hsc⟩ := (unhide HS1).idx hlt (k : Int) rfl
        have hkL := hide (show k < ss.length by rw [unhide hslen]; exact hlt)
        obtain ⟨s, hsv⟩ : ∃ s, s = ss[k]?.getD 0 := ⟨_, rfl⟩
        rw [← hsv] at hsc
        have HSV := hide hsv
        clear hsv
        by_cases hneg : s < 0
        · have hans := hide (show (r1, r2, r3) = ([], 0, 2) by rw [← unhide HR]; unfold wrq; rw [if_pos (unhide HE), if_pos (any_at (unhide hkL) (by rw [← unhide HSV]; simp [sbad, hneg]))])
          go_wp2_with fail
          go_ret3
          have ha := unhide hans
          simp only [Prod.mk.injEq] at ha
          obtain ⟨rfl, rfl, rfl⟩ := ha
          exact ⟨⟨_, _, _, rfl, Bs.nought _⟩, b1⟩
        · by_cases hbig : (n : Int) ≤ s
          · have hans := hide (show (r1, r2, r3) = ([], 0, 2) by rw [← unhide HR]; unfold wrq; rw [if_pos (unhide HE), if_pos (any_at (unhide hkL) (by rw [← unhide HSV]; simp [sbad, unhide hlen, hbig]))])
            go_wp2_with fail
            go_ret3
            have ha := unhide hans
            simp only [Prod.mk.injEq] at ha
            obtain ⟨rfl, rfl, rfl⟩ := ha
            exact ⟨⟨_, _, _, rfl, Bs.nought _⟩, b1⟩
          · obtain ⟨S, rfl⟩ : ∃ S : Nat, s = (S : Int) := ⟨s.toNat, by omega⟩
            have hSn : S < n := by omega
            have hSL := hide (show S < L.length by rw [unhide hlen]; exact hSn)
            obtain ⟨lb, lof, hli, hlc⟩ := (unhide HL1).idx hSn (S : Int) rfl
            obtain ⟨x, hx⟩ : ∃ x, x = ln L S := ⟨_, rfl⟩
            rw [show L[S]?.getD 0 = x from hx.symm] at hlc
            have HX := hide hx
            clear hx
            by_cases h0 : x = 0
            · have hans := hide (show (r1, r2, r3) = ([], 0, 2) by rw [← unhide HR]; unfold wrq; rw [if_pos (unhide HE), if_pos (any_at (unhide hkL) (by rw [← unhide HSV]; simp [sbad, ← unhide HX, h0]))])
              subst h0
              go_wp2_with fail
              go_ret3
              have ha := unhide hans
              simp only [Prod.mk.injEq] at ha
              obtain ⟨rfl, rfl, rfl⟩ := ha
              exact ⟨⟨_, _, _, rfl, Bs.nought _⟩, b1⟩
            · have hsb := hide (show sbad L (S : Int) = false by
                have h1 := unhide hSL
                have h2 := unhide HX
                simp [sbad]
                omega)
              have hx0 : (x == 0) = false := by simpa using h0
              go_wp2_with fail
              go_round
              case rel =>
                refine ⟨k + 1, by omega, by go_num, fun j hj => ?_⟩
                by_cases hjk : j = k
                · rw [hjk, ← unhide HSV]; exact unhide hsb
                · exact unhide HGD j (by omega)
              case measure => simp [intOf]; omega
      · have hall := hide (show ∀ x ∈ ss, sbad L x = false from by
          intro x hx
          obtain ⟨i, hi, rfl⟩ := List.getElem_of_mem hx
          have := unhide HGD i (by rw [unhide hslen] at hi; omega)
          simpa [List.getElem?_eq_getElem hi] using this)
        have hans := hide (show (r1, r2, r3) = (pkF [] 0 (wtext L ss), ((wtext L ss).length : Int), 0) by
          rw [← unhide HR]; unfold wrq
          rw [if_pos (unhide HE), any_no (fun i hi => unhide HGD i (by rw [unhide hslen] at hi; omega)), if_neg (by simp)])
        clear HGD
        go_wp2_with fail
        go_loopw [10, 11, 12] (fun v t i wr => ∃ (q : Nat) (xo : Option Addr) (xn xc : Nat), q ≤ m ∧ i = .int .i64 q ∧ v = .slice xo xn xc ∧ t = .int .i64 ((wtext L (ss.take q)).length : Int) ∧ Mine w1.heap.size wr xo xn xc (pkF [] 0 (wtext L (ss.take q))) ∧ Below w1.heap.size w1 wr) (fun _ _ i _ => m - (intOf i).toNat)
        case atStart => exact ⟨0, none, 0, 0, by omega, rfl, rfl, rfl, Mine.nought _ _, Below.refl _ _⟩
        case round =>
          obtain ⟨q, xo, xn, xc, hq, rfl, rfl, rfl, hmine, hbel⟩ := hrel
          have HM := hide hmine
          have zr := hbel.size
          have hle15 := wtext_le (unhide hg) (ss.take q) (fun x hx => unhide hall x (List.mem_of_mem_take hx))
          have ht : (wtext L (ss.take q)).length ≤ 15000 := by simp at hle15; omega
          clear hle15 hmine
          by_cases hqm : q < m
          · obtain ⟨sb, sof, hsi, hsc0⟩ := (unhide HS1).idx hqm (q : Int) rfl
            have hkL := hide (show q < ss.length by rw [unhide hslen]; exact hqm)
            obtain ⟨s, hsv⟩ : ∃ s, s = ss[q]?.getD 0 := ⟨_, rfl⟩
            rw [← hsv] at hsc0
            have hsb := hide (show sbad L s = false from unhide hall s (by rw [hsv]; simp [List.getElem?_eq_getElem (unhide hkL)]))
            have hsg := sgood (unhide hsb)
            have hsl := sbits_len (unhide hg) (unhide hsb)
            obtain ⟨S, rfl⟩ : ∃ S : Nat, s = (S : Int) := ⟨s.toNat, by omega⟩
            have hSn : S < n := by rw [← unhide hlen]; omega
            have hSL := hide (show S < L.length by rw [unhide hlen]; exact hSn)
            simp only [Int.toNat_natCast] at hsg hsl
            obtain ⟨lb, lof, hli, hlc0⟩ := (unhide HL1).idx hSn (S : Int) rfl
            obtain ⟨cb, cof, hci, hcc0⟩ := (unhide HK).idx hSn (S : Int) rfl
            rw [cds_at L (unhide hSL)] at hcc0
            have hcb := code_bd (unhide hg) (unhide hSL)
            obtain ⟨X, hX⟩ : ∃ X : Nat, ln L S = (X : Int) := ⟨(sbits L (S : Int)).length, by omega⟩
            rw [show L[S]?.getD 0 = (X : Int) from hX] at hlc0
            have hX15 : X ≤ 15 := by omega
            have hX1 : 1 ≤ X := by omega
            have hcl := (code_lt L (unhide hSL) X hX (by omega)).1
            have hc0 : 0 ≤ code L S := by have := fc_nonneg L X; omega
            have hbits := hide (show sbits L (S : Int) = bto (code L S) X by unfold sbits; simp [hX])
            obtain ⟨K, hKc⟩ : ∃ K, K = code L S := ⟨_, rfl⟩
            rw [← hKc] at hcc0 hcb hc0
            have htake := hide (show wtext L (ss.take (q + 1)) = wtext L (ss.take q) ++ bto K X by
              rw [take_snoc (unhide hkL), wtext_app, hKc, ← unhide hbits]
              simp only [wtext, List.append_nil]
              congr 2
              rw [hsv]; rfl)
            have hsc := cell_later hbel hsc0
            have hlc := cell_later hbel hlc0
            have HSC := hide hsc0
            have HLC := hide hlc0
            have HCC := hide hcc0
            have HX := hide hX
            clear hsc0 hlc0 hcc0 hX hKc hsv hsg hsl hcl
            have hWst := hide (show Wst (pkF [] 0 (wtext L (ss.take q))) (wtext L (ss.take q)).length by have := Wst.pk (wtext L (ss.take q)) Wst.nought (wtext_01 L _); rwa [Nat.zero_add] at this)
            obtain ⟨Rn, hRn⟩ : ∃ Rn, Rn = pkF [] 0 (wtext L (ss.take (q + 1))) := ⟨_, rfl⟩
            have hRn2 := hide (show Rn = pkF (pkF [] 0 (wtext L (ss.take q))) (wtext L (ss.take q)).length (bto K X) by rw [hRn, unhide htake, pkF_app, Nat.zero_add])
            have hTn := hide (show ((wtext L (ss.take (q + 1))).length : Int) = ((wtext L (ss.take q)).length : Int) + (X : Int) by rw [unhide htake, List.length_append, bto_len]; omega)
            have HRN := hide hRn
            clear hRn
            generalize (wtext L (ss.take q)).length = T at *
            go_wp2_with fail
            go_loopw [10, 11, 14] (fun v t i wr => ∃ (j a : Nat) (cur : List Int) (xo : Option Addr) (xn xc : Nat), j ≤ X ∧ i = .int .i64 ((j : Int) - 1) ∧ t = .int .i64 (a : Int) ∧ a + j = T + X ∧ v = .slice xo xn xc ∧ Mine w1.heap.size wr xo xn xc cur ∧ Wst cur a ∧ Rn = pkF cur a (bto K j) ∧ Below w1.heap.size w1 wr) (fun _ _ i _ => (intOf i + 1).toNat)
            case atStart => exact ⟨X, T, _, xo, xn, xc, by omega, rfl, rfl, rfl, rfl, unhide HM, unhide hWst, unhide hRn2, hbel⟩
            case round =>
              clear HM hWst hRn2 hbel hsc hlc zr
              obtain ⟨j, a, cur, yo, yn, yc, hj, rfl, rfl, haj, rfl, hmine, hW, hRj, hbel⟩ := hrel
              have hsc := cell_later hbel (unhide HSC)
              have hcc := cell_later hbel (unhide HCC)
              by_cases h0 : j = 0
              · subst h0
                have HMj := hide (show Mine w1.heap.size wr yo yn yc (pkF [] 0 (wtext L (ss.take (q + 1)))) by rw [← unhide HRN, hRj]; exact hmine)
                clear hmine hW hRj
                go_wp2_with fail
                go_roundw
                case rel => exact ⟨q + 1, yo, yn, yc, by omega, by go_num, rfl, by rw [unhide hTn]; congr 1; omega, unhide HMj, hbel⟩
                case measure => simp [intOf]; omega
              · obtain ⟨J, rfl⟩ : ∃ J, j = J + 1 := ⟨j - 1, by omega⟩
                have hx := (show 0 ≤ K / 2 ^ J % 2 ∧ K / 2 ^ J % 2 ≤ 1 by omega)
                have hand := and1_i64 (K / 2 ^ J)
                have cp := hide (put_ref w1.heap.size yo yn yc cur a (K / 2 ^ J % 2) wr hmine hW (by omega) hx.1 hx.2 hbel.size)
                have hWn := hide (hW.put hx.1 hx.2)
                have hRn := hide (show Rn = pkF (putB cur a (K / 2 ^ J % 2)) (a + 1) (bto K J) from hRj)
                clear hmine hW hRj
                generalize K / 2 ^ J % 2 = Y at *
                go_wp2_with fail
                refine (unhide cp).mono ?_
                rintro e w2 ⟨⟨ao2, n2, c2, rfl, m2⟩, b2⟩
                have M2 := hide m2
                have bel2 : Below w1.heap.size w1 w2 := hbel.trans b2
                clear m2 b2
                go_wp2_with fail
                go_roundw
                case rel => exact ⟨J, a + 1, putB cur a Y, ao2, n2, c2, by omega, by go_num, by go_num, by omega, rfl, unhide M2, unhide hWn, unhide hRn, bel2⟩
                case measure => simp [intOf] <;> omega
          · have hT : ss.take q = ss := List.take_of_length_le (by rw [unhide hslen]; omega)
            rw [hT] at HM ht ⊢
            clear hT
            have ha := unhide hans
            simp only [Prod.mk.injEq] at ha
            obtain ⟨rfl, rfl, rfl⟩ := ha
            go_wp2_with fail
            go_ret3
            exact ⟨⟨_, _, _, rfl, (unhide HM).bs⟩, b1.trans (hbel.mono z1)⟩
  · have he' : (cer L != 0) = true := by simpa using he
    have hans := hide (show (r1, r2, r3) = ([], 0, cer L) by rw [← unhide HR]; unfold wrq; rw [if_neg he])
    clear he
    go_wp2_with fail
    go_ret3
    have ha := unhide hans
    simp only [Prod.mk.injEq] at ha
    obtain ⟨rfl, rfl, rfl⟩ := ha
    exact ⟨⟨_, _, _, rfl, Bs.nought _⟩, b1⟩

end Go.Proofs.Ytgphglghjpeojaa
