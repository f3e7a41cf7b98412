/-
  What piece, a method of package deflate's finder, answers: the piece at the place where the finder is. It writes nothing that was there. Conditions: at most 32,768 bytes.
-/
import Derived.Test.YtalkeooejobjhaaDoorDefKeep
import Derived.Test.YtalkeooejobjhaaDoorMMem
namespace Go.Proofs.YtalkeooejobjhaaDoor
open Go.RowKit Go.Maps Go.MapKept
open Go.WideElems (Fit rd rg pl rd_val)
set_option linter.unusedVariables false
set_option linter.unusedSimpArgs false

/-- 'f.places[t]': the value is the same as long as the map is. -/
theorem groups_look {w : World} {base : Nat} {B n : Nat} {D : DataW Unit} (h : w.ownsGroups Tryd.prog 101 base 3 .i64 B n D) {key : Value} {kl : Lit} (hkey : keyOf Tryd.prog 101 key = some kl) :
    ∃ v zs, (∀ w' : World, w'.heap[B]? = w.heap[B]? → (Instr.lookup 76 (.map (some B)) key false).run Tryd.prog w' = .ok v w') ∧ D.atKey kl .nil = rowDatum .i64 v zs ∧ w.ownsInts base 3 .i64 v zs := by
  obtain ⟨es, clock, hb, F, hs, rfl, hbb, hlen, hap⟩ := h
  rcases Maps.fit_look false triKeyed Tryd.underlying76 (zeroInts w) hb F hkey with ⟨_, hno, hat⟩ | ⟨e0, y, hm0, h3, _, hR, hat, _⟩
  · refine ⟨.slice none 0 0, [], fun w' hw' => ?_, hat _, World.ownsInts_nil _ _ _ _⟩
    rcases Maps.fit_look false triKeyed Tryd.underlying76 (zeroInts w') (hw'.trans hb) F hkey with ⟨hrun, _, _⟩ | ⟨e1, _, hm1, h31, _⟩
    · exact hrun
    · exact absurd h31 (hno e1 hm1)
  · obtain ⟨zs, ho, rfl⟩ := rowElem_inv hR
    refine ⟨e0.val, zs, fun w' hw' => ?_, hat _, ho⟩
    rcases Maps.fit_look false triKeyed Tryd.underlying76 (zeroInts w') (hw'.trans hb) F hkey with ⟨_, hno, _⟩ | ⟨e1, _, hm1, h31, hrun, _⟩
    · exact absurd h3 (hno e0 hm0)
    · have : e1 = e0 := by
        obtain ⟨i, hi, ex⟩ := List.getElem_of_mem hm0
        obtain ⟨i', hi', ex'⟩ := List.getElem_of_mem hm1
        by_cases hij : i' = i
        · subst hij; rw [← ex, ← ex']
        · exfalso
          exact WideElems.other_key F (show es.toList[i]? = some e0 by rw [List.getElem?_eq_getElem hi, ex]) (show es.toList[i']? = some e1 by rw [List.getElem?_eq_getElem hi', ex']) hij (by rw [h31, h3])
      rw [this] at hrun
      exact hrun

theorem ints_is {w : World} {base : Nat} {v : Value} {zs : List Int} (h : w.ownsInts base 3 .i64 v zs) : ∃ ao c, v = .slice ao zs.length c ∧ Is w ao zs.length c zs := by
  have hfit : I64 zs := fun x hx => bounds_i64 (h.2 x hx)
  rcases h.1.2 with ⟨hv, h0⟩ | ⟨g, cap, cur, hv, hg⟩
  · exact ⟨none, 0, by rw [hv, h0], by have := List.eq_nil_of_length_eq_zero h0; subst this; exact Is.nought w⟩
  · subst hv
    exact ⟨some ⟨g, 0, none⟩, cap, rfl, IMine.is (B := base) ⟨rfl, h.1, hfit⟩⟩

section
variable {E : Fv} {No : Nat → Prop} {g B base : Nat} {w : World} {A M : Nat}

theorem like_gt (bs : List Int) (q A n : Nat) (hn : n < mst bs A) : (n < likeQ bs q A n (mst bs A) ↔ n < mt bs A q) ∧ (n < mt bs A q → likeQ bs q A n (mst bs A) = mt bs A q) := by
  unfold likeQ
  by_cases he : eqb bs q A n = true
  · rw [if_pos he]
    exact ⟨Iff.rfl, fun _ => rfl⟩
  · rw [if_neg he]
    have : ¬ n < mt bs A q := fun h => he (by have := mt_same bs A q h; simpa [eqb] using this)
    exact ⟨⟨fun h => by omega, fun h => absurd h this⟩, fun h => absurd h this⟩

/-- What the places of the three bytes at A say is the best copy. -/
theorem pick_places (bs : List Int) (A : Nat) (h3 : A + 3 ≤ bs.length) : pcOf bs A (pick (mt bs A) (plc bs (bs[A]?.getD 0) (bs[A + 1]?.getD 0) (bs[A + 2]?.getD 0) A) (0, 0)) = pce bs A := by
  have hm : 3 ≤ mst bs A := by unfold mst; omega
  have hP : ∀ q, q < A → (hasT bs (bs[A]?.getD 0) (bs[A + 1]?.getD 0) (bs[A + 2]?.getD 0) q = true ↔ 3 ≤ mt bs A q) := by
    intro q hq
    constructor
    · intro h
      unfold hasT at h
      simp at h
      refine mt_more bs A q 3 hm fun j hj => ?_
      have : j = 0 ∨ j = 1 ∨ j = 2 := by omega
      rcases this with rfl | rfl | rfl
      · simpa using h.2.1
      · simpa using h.2.2.1
      · simpa using h.2.2.2
    · intro h
      have e0 := mt_same bs A q (j := 0) (by omega)
      have e1 := mt_same bs A q (j := 1) (by omega)
      have e2 := mt_same bs A q (j := 2) (by omega)
      unfold hasT
      rw [Nat.add_zero, Nat.add_zero] at e0
      simp [e0, e1, e2]
      omega
  have key := pick_filter (mt bs A) (hasT bs (bs[A]?.getD 0) (bs[A + 1]?.getD 0) (bs[A + 2]?.getD 0)) A (0, 0) (0, 0) hP (.inr ⟨rfl, by simp⟩)
  unfold plc pce bst
  rcases key with ⟨k1, k2⟩ | ⟨k1, k2⟩
  · rw [if_pos k2, k1]
  · rw [if_neg (by omega), k1]
theorem pce_short (bs : List Int) (A : Nat) (h3 : ¬ A + 3 ≤ bs.length) : pce bs A = ⟨0, 0, bs[A]?.getD 0⟩ := by
  refine (pce_byte bs A fun h => ?_).1
  obtain ⟨n, q, _, _, h1, _, h2, _⟩ := pce_copy bs A h
  omega
theorem pcOf_l (bs : List Int) (A : Nat) (r : Nat × Nat) : (pcOf bs A r).l = (r.1 : Int) := by
  unfold pcOf
  split
  · rename_i h; rw [h]; rfl
  · rfl
theorem pcOf_new (bs : List Int) (A n q : Nat) (h : n ≠ 0) : pcOf bs A (n, q) = ⟨(n : Int), (A : Int) - (q : Int), 0⟩ := if_neg h

set_option maxHeartbeats 4000000 in
set_option maxRecDepth 20000 in
theorem piece_any (w : World) (h : Fn E No g B base w A A) (hA : A < E.bn) :
    Calls Tryd.prog 39 #[.pointer (some ⟨g, 0, none⟩)] w fun e w' => e = .returned (.agg (pv (pce E.bs A))) ∧ Below w.heap.size w w' := by
  have hbn := h.bn
  have hbl := h.bl
  have hle := h.bs.le
  have hmx := h.bs.max
  have hgl := h.glt
  have H := hide h
  obtain ⟨R, hR⟩ : ∃ R, R = pce E.bs A := ⟨_, rfl⟩
  rw [← hR]
  have HR := hide hR
  clear hR
  obtain ⟨bb, oo, hix, hcx⟩ := h.bs.idx (show A < E.bn by omega) (A : Int) rfl
  have b0 := below_alloc w (.cells (pv ⟨0, 0, 0⟩) 72)
  have c0 := h.c0
  have c1 := h.c1
  obtain ⟨V, hV⟩ : ∃ V, V = E.bs[A]?.getD 0 := ⟨_, rfl⟩
  rw [← hV] at hcx
  have HV := hide hV
  clear h hV
  go_enter Tryd.func39, Tryd.ntmps39
  go_wp2_with (with_reducible show wpList Tryd.prog _ _ (Oper.mk _ (Op.alloc 72) _ _ _ none :: _) _ _; refine wpList_pcAlloc rfl rfl ?_; intro w1 p1 b1 s1; have c0' := cell_later b1 c0; have c1' := cell_later b1 c1; have hcx' := cell_later b1 hcx)
  go_frame
  have b2 := below_alloc w1 (.cells (pv ⟨0, 0, 0⟩) 72)
  have c0'' := cell_later b2 c0'
  have c1'' := cell_later b2 c1'
  have hcx'' := cell_later b2 hcx'
  simp only [pv] at c0'' c1'' hcx''
  go_region
  obtain ⟨w2, hw2⟩ : ∃ w2, w2 = (w1.alloc (Obj.cells #[.int .i64 0, .int .i64 0, .int .u8 V] 72)).drew := ⟨_, rfl⟩
  rw [← hw2]
  have b12 : Below w1.heap.size w1 w2 := by rw [hw2]; exact (below_alloc w1 _).trans ⟨rfl, rfl, rfl, Nat.le_refl _, fun _ _ => rfl⟩
  have p2 : Px w2 (w.heap.size + 1) ⟨0, 0, V⟩ := by rw [hw2, ← s1]; exact heap_alloc_new w1 _
  have q2 : Px w2 w.heap.size ⟨0, 0, 0⟩ := p1.later b12
  have bw2 : Below w.heap.size w w2 := b1.trans (b12.mono (by omega))
  have h2 := (unhide H).later bw2
  have c1 := h2.c1
  have tc := hide (triple_any g w2 E.bo E.bn E.bc E.bs A h2.c0 h2.bs h2.bn h2.A)
  have H2 := hide h2
  clear hw2 b12 p1 b1 s1 b2 b0 c0 c0' c0'' c1' c1'' hcx hcx' hcx'' hix h2
  by_cases h3 : A + 3 ≤ E.bn
  · have hq : triQ E.bs A = .tuple #[triV (E.bs[A]?.getD 0) (E.bs[A + 1]?.getD 0) (E.bs[A + 2]?.getD 0), .bool true] := by unfold triQ; rw [hbl, if_pos h3]
    rw [hq] at tc
    have hpk := hide (pick_places E.bs A (by omega))
    have hP := hide (show ∀ q ∈ plc E.bs (E.bs[A]?.getD 0) (E.bs[A + 1]?.getD 0) (E.bs[A + 2]?.getD 0) A, q < A from fun q hq => (plc_lt hq).1)
    have hk := hide (triKey ((unhide H).bs.byt.at A) ((unhide H).bs.byt.at (A + 1)) ((unhide H).bs.byt.at (A + 2)))
    have hpz := hide (show pcOf E.bs A (0, 0) = ⟨0, 0, V⟩ by rw [unhide HV]; rfl)
    unfold triV at tc hk
    generalize E.bs[A]?.getD 0 = x0 at *
    generalize E.bs[A + 1]?.getD 0 = x1 at *
    generalize E.bs[A + 2]?.getD 0 = x2 at *
    clear hq
    go_wp2_with fail
    refine (unhide tc).mono ?_
    rintro e w3 ⟨rfl, b3⟩
    go_wp2_with fail
    obtain ⟨w4, hw4⟩ : ∃ w4, w4 = w3.alloc (Obj.cells #[.int .u8 x0, .int .u8 x1, .int .u8 x2] 101) := ⟨_, rfl⟩
    rw [← hw4]
    have b34 : Below w3.heap.size w3 w4 := by rw [hw4]; exact below_alloc w3 _
    have k0 : w4.cell? ⟨w3.heap.size, 0, none⟩ = some (.int .u8 x0) := by rw [hw4]; exact cell_top w3 _ _ 0 _ rfl
    have k1 : w4.cell? ⟨w3.heap.size, 1, none⟩ = some (.int .u8 x1) := by rw [hw4]; exact cell_top w3 _ _ 1 _ rfl
    have k2 : w4.cell? ⟨w3.heap.size, 2, none⟩ = some (.int .u8 x2) := by rw [hw4]; exact cell_top w3 _ _ 2 _ rfl
    have b24 : Below w2.heap.size w2 w4 := b3.trans (b34.mono b3.size)
    have p4 := p2.later b24
    have q4 := q2.later b24
    have h4 := (unhide H2).later b24
    have bw4 : Below w.heap.size w w4 := bw2.trans (b24.mono bw2.size)
    clear hw4 b34 b3 p2 q2 b24 bw2 c1
    have c2 := h4.c2
    have c0 := h4.c0
    have c1 := h4.c1
    obtain ⟨kl, hkl⟩ := unhide hk
    obtain ⟨D, hoD, hrD⟩ := (unhide H).own
    obtain ⟨v, zs, hlk, hat, hoi⟩ := groups_look hoD hkl
    have hzs : zs = nI (plc E.bs x0 x1 x2 A) := rowD_is hoi ((hrD x0 x1 x2 kl hkl).symm.trans hat)
    have hlook := fun j => hlk (w4.drewN j) (bw4.block B (unhide H).own.lt)
    obtain ⟨ao, c, rfl, his⟩ := ints_is hoi
    obtain ⟨P, hPl⟩ : ∃ P, P = plc E.bs x0 x1 x2 A := ⟨_, rfl⟩
    rw [← hPl] at hzs hpk hP
    have HZ := hide hzs
    have hzl : zs.length ≤ A := by rw [hzs, nI_len, hPl]; exact plc_len _ _ _ _ _
    have hzP := hide (show P.length = zs.length by rw [hzs, nI_len])
    have hic := his.le
    have him := his.max
    have IS := hide his
    have H4 := hide h4
    have BW4 := hide bw4
    have P4 := hide p4
    have Q4 := hide q4
    clear hrD hat hoi hoD hkl hk h4 bw4 p4 q4 hzs his H2 tc hPl hlk
    go_quiet (fail)
    go_wp2_with fail
    go_region
    obtain ⟨m, hm⟩ : ∃ m, m = mst E.bs A := ⟨_, rfl⟩
    have hmb : m ≤ 258 ∧ A + m ≤ E.bn := by rw [hm]; unfold mst; omega
    rw [show (if (E.bn : Int) - (A : Int) < 258 then (E.bn : Int) - (A : Int) else 258) = (m : Int) by rw [hm]; unfold mst; split <;> omega]
    have HM := hide hm
    obtain ⟨w5, hw5⟩ : ∃ w5, w5 = w4.drewN (nq + 1) := ⟨_, rfl⟩
    rw [← hw5]
    have bw5 : Below w.heap.size w w5 := (unhide BW4).trans (by rw [hw5]; exact ⟨rfl, rfl, rfl, Nat.le_refl _, fun _ _ => rfl⟩)
    have p5 : Px w5 (w.heap.size + 1) (pcOf E.bs A (0, 0)) := by rw [hw5, unhide hpz]; exact unhide P4
    have q5 : Px w5 w.heap.size ⟨0, 0, 0⟩ := by rw [hw5]; exact unhide Q4
    have PK := hide (show pcOf E.bs A (pick (mt E.bs A) (P.take zs.length) (0, 0)) = R by rw [unhide HR]; rw [← unhide hzP, List.take_length]; exact unhide hpk)
    clear hm hw5 BW4 P4 Q4 hpz hpk k0 k1 k2 c0 c1 c2 hlook H4
    go_wp2_with fail
    go_loopw [8] (fun i wr => ∃ (k : Nat) (b' : Nat × Nat), k ≤ zs.length ∧ i = .int .i64 ((k : Int) - 1) ∧ pcOf E.bs A (pick (mt E.bs A) (P.take k) b') = R ∧ b'.1 ≤ m ∧ Px wr (w.heap.size + 1) (pcOf E.bs A b') ∧ Px wr w.heap.size ⟨0, 0, 0⟩ ∧ Below w.heap.size w wr) (fun i _ => (intOf i + 1).toNat)
    case atStart => exact ⟨zs.length, (0, 0), Nat.le_refl _, rfl, unhide PK, by simp, p5, q5, bw5⟩
    case round =>
      clear p5 q5 bw5 PK
      obtain ⟨k, b', hk, rfl, hpk, hbm, px, qx, bwr⟩ := hrel
      have l0 := px.c0
      rw [pcOf_l] at l0
      have PX := hide px
      have QX := hide qx
      have BW := hide bwr
      by_cases hgo : 1 ≤ k ∧ b'.1 < m
      · obtain ⟨K, rfl⟩ : ∃ K, k = K + 1 := ⟨k - 1, by omega⟩
        rw [show (((K + 1 : Nat) : Int) - 1) = (K : Int) by omega]
        have hKl : K < zs.length := by omega
        have fn := (unhide H).later bwr
        have d0 := fn.c0
        have d1 := fn.c1
        have FB := hide fn.bs
        obtain ⟨q, hq⟩ : ∃ q, P[K]? = some q := ⟨_, List.getElem?_eq_getElem (show K < P.length by rw [unhide hzP]; exact hKl)⟩
        have hqA : q < A := unhide hP q (List.mem_of_getElem? hq)
        have hzq : zs[K]?.getD 0 = (q : Int) := by rw [unhide HZ]; simp [nI, hq]
        obtain ⟨ib, io, hix, hcx⟩ := ((unhide IS).later bwr).idx hKl (K : Int) rfl
        rw [hzq] at hcx
        have ac := hide (fun j => alike_any g (wr.drewN j) E.bo E.bn E.bc E.bs A q b'.1 m d0 d1 ((unhide FB).later ⟨rfl, rfl, rfl, Nat.le_refl _, fun _ _ => rfl⟩) hbn hqA hmb.2 hgo.2)
        have hlk := like_gt E.bs q A b'.1 (by rw [← unhide HM]; exact hgo.2)
        rw [← unhide HM] at hlk
        have htk : pick (mt E.bs A) (P.take (K + 1)) b' = pick (mt E.bs A) (P.take K) (g1 (mt E.bs A) q b') := by
          rw [List.take_add_one, hq]
          exact pick_snoc _ _ _ _
        rw [htk] at hpk
        have hmt := mt_le E.bs A q
        rw [← unhide HM] at hmt
        clear px qx bwr fn htk hzq hq
        by_cases hgt : b'.1 < mt E.bs A q
        · have e1 := hlk.2 hgt
          have e2 : g1 (mt E.bs A) q b' = (mt E.bs A q, q) := if_pos hgt
          rw [e1] at ac
          rw [e2] at hpk
          have HPK := hide hpk
          obtain ⟨N, hN⟩ : ∃ N, N = mt E.bs A q := ⟨_, rfl⟩
          rw [← hN] at ac HPK hgt hmt
          obtain ⟨L, hL⟩ : ∃ L, L = b'.1 := ⟨_, rfl⟩
          rw [← hL] at ac l0 hgt hgo
          have hgt' : (L : Int) < (N : Int) := by omega
          have hlm : (L : Int) < (m : Int) := by omega
          have hK0 : (0 : Int) ≤ (K : Int) := by omega
          clear hlk e1 e2 hpk hN hL hbm
          go_wp2_with fail
          go_quiet (first | (go_at_call 61; refine Calls.quiet_of (unhide ac _)))
          go_wp2_with fail
          obtain ⟨wq, hwq⟩ : ∃ wq, wq = wr.drewN nq := ⟨_, rfl⟩
          rw [← hwq]
          have bq : Below wr.heap.size wr wq := by rw [hwq]; exact ⟨rfl, rfl, rfl, Nat.le_refl _, fun _ _ => rfl⟩
          have pq := (unhide PX).later bq
          have qq := (unhide QX).later bq
          have bwq := (unhide BW).trans (bq.mono (unhide BW).size)
          have dq1 := ((unhide H).later bwq).c1
          have hcq := cell_later bq hcx
          have f0 := pq.free 0
          have f1 := pq.free 1
          have f2 := pq.free 2
          have x0 := pq.c0
          have x1 := pq.c1
          have x2 := pq.c2
          have put := hide (pq.put (pcOf E.bs A (N, q)))
          rw [pcOf_new E.bs A N q (by omega)] at put
          have QQ := hide qq
          have BQ := hide bwq
          clear hwq bq pq qq bwq PX QX BW l0 d0 d1 hcx ac FB
          go_region
          all_goals go_wp2_with fail
          all_goals go_roundw
          case rel =>
            have hqw : w.heap.size ≠ w.heap.size + 1 := by omega
            have g9 := (unhide put).2.drew
            exact ⟨K, (N, q), by omega, by go_num, unhide HPK, by omega, by rw [pcOf_new E.bs A N q (by omega)]; exact (unhide put).1, (unhide QQ).gb g9 hqw, (unhide BQ).trans ⟨g9.os, g9.tape, g9.output, g9.size, fun j hj => g9.block j (by have := (unhide BQ).size; omega) (by omega)⟩⟩
          case measure => simp [intOf]
        · have e1 : ¬ b'.1 < likeQ E.bs q A b'.1 m := fun h => hgt (hlk.1.1 h)
          have e2 : g1 (mt E.bs A) q b' = b' := if_neg hgt
          rw [e2] at hpk
          have HPK := hide hpk
          obtain ⟨N, hN⟩ : ∃ N, N = likeQ E.bs q A b'.1 m := ⟨_, rfl⟩
          rw [← hN] at ac e1
          obtain ⟨L, hL⟩ : ∃ L, L = b'.1 := ⟨_, rfl⟩
          rw [← hL] at ac l0 e1 hgo
          have hgt' : ¬ (L : Int) < (N : Int) := by omega
          have hlm : (L : Int) < (m : Int) := by omega
          have hK0 : (0 : Int) ≤ (K : Int) := by omega
          clear hlk e1 e2 hpk hN hL hgt
          go_wp2_with fail
          go_quiet (first | (go_at_call 61; refine Calls.quiet_of (unhide ac _)))
          go_wp2_with fail
          go_roundw
          case rel => exact ⟨K, b', by omega, by go_num, unhide HPK, hbm, (unhide PX).later ⟨rfl, rfl, rfl, Nat.le_refl _, fun _ _ => rfl⟩, (unhide QX).later ⟨rfl, rfl, rfl, Nat.le_refl _, fun _ _ => rfl⟩, (unhide BW).trans ⟨rfl, rfl, rfl, Nat.le_refl _, fun _ _ => rfl⟩⟩
          case measure => simp [intOf]
      · have hfin : R = pcOf E.bs A b' := by
          rw [← hpk]
          by_cases hk0 : k = 0
          · rw [hk0]; rfl
          · rw [pick_full (m := m) (by omega) _ (fun x hx => by rw [unhide HM]; exact mt_le E.bs A x)]
        have HF := hide hfin
        clear hpk px qx bwr hfin
        by_cases hk0 : k = 0
        · subst hk0
          go_wp2_with (first
            | (with_reducible show wpList Tryd.prog _ _ (Oper.mk _ (Op.load 72 _) _ _ _ none :: _) _ _; refine wpList_pcLoad rfl (.tmp 3) rfl (w.heap.size + 1) rfl _ (unhide PX) ?_)
            | (with_reducible show wpList Tryd.prog _ _ (Oper.mk _ (Op.store 72 _ _) _ _ _ none :: _) _ _; refine wpList_pcStore rfl (.tmp 2) (.tmp 87) rfl w.heap.size (pcOf E.bs A b') ⟨0, 0, 0⟩ rfl rfl (unhide QX) ?_; intro w9 p9 g9 s9))
          try go_frame
          go_wp2_with fail
          refine bodyPost_ret (results_pc rfl _ _ w.heap.size _ rfl p9) rfl ?_
          rw [unhide HF]
          exact ⟨rfl, (unhide BW).trans ⟨g9.os, g9.tape, g9.output, g9.size, fun k hk => g9.block k (by have := (unhide BW).size; omega) (by omega)⟩⟩
        · have hlm : ¬ (b'.1 : Int) < (m : Int) := by omega
          have hk1 : (0 : Int) ≤ (k : Int) - 1 := by omega
          clear hgo
          go_wp2_with (first
            | (with_reducible show wpList Tryd.prog _ _ (Oper.mk _ (Op.load 72 _) _ _ _ none :: _) _ _; refine wpList_pcLoad rfl (.tmp 3) rfl (w.heap.size + 1) rfl _ (unhide PX) ?_)
            | (with_reducible show wpList Tryd.prog _ _ (Oper.mk _ (Op.store 72 _ _) _ _ _ none :: _) _ _; refine wpList_pcStore rfl (.tmp 2) (.tmp 87) rfl w.heap.size (pcOf E.bs A b') ⟨0, 0, 0⟩ rfl rfl (unhide QX) ?_; intro w9 p9 g9 s9))
          try go_frame
          go_wp2_with fail
          refine bodyPost_ret (results_pc rfl _ _ w.heap.size _ rfl p9) rfl ?_
          rw [unhide HF]
          exact ⟨rfl, (unhide BW).trans ⟨g9.os, g9.tape, g9.output, g9.size, fun k hk => g9.block k (by have := (unhide BW).size; omega) (by omega)⟩⟩
  · have hq : triQ E.bs A = .tuple #[triV 0 0 0, .bool false] := by unfold triQ; rw [hbl, if_neg h3]
    rw [hq] at tc
    unfold triV at tc
    have hr := hide (show R = ⟨0, 0, V⟩ by rw [unhide HR, unhide HV]; exact pce_short E.bs A (by omega))
    clear hq
    go_wp2_with fail
    refine (unhide tc).mono ?_
    rintro e w3 ⟨rfl, b3⟩
    have b4 := below_alloc w3 (.cells #[.int .u8 0, .int .u8 0, .int .u8 0] 101)
    have p4 := (p2.later b3).later b4
    have q4 := (q2.later b3).later b4
    have b24 := hide (bw2.trans ((b3.trans (b4.mono b3.size)).mono bw2.size))
    have P4 := hide p4
    have Q4 := hide q4
    clear p4 q4 p2 q2 b3 b4 bw2
    go_wp2_with (first
      | (with_reducible show wpList Tryd.prog _ _ (Oper.mk _ (Op.load 72 _) _ _ _ none :: _) _ _; refine wpList_pcLoad rfl (.tmp 3) rfl (w.heap.size + 1) rfl _ (unhide P4) ?_)
      | (with_reducible show wpList Tryd.prog _ _ (Oper.mk _ (Op.store 72 _ _) _ _ _ none :: _) _ _; refine wpList_pcStore rfl (.tmp 2) (.tmp 32) rfl w.heap.size ⟨0, 0, V⟩ ⟨0, 0, 0⟩ rfl rfl (unhide Q4) ?_; intro w5 p5 g5 s5))
    go_frame
    go_wp2_with fail
    refine bodyPost_ret (results_pc rfl _ _ w.heap.size ⟨0, 0, V⟩ rfl p5) rfl ?_
    rw [unhide hr]
    exact ⟨rfl, (unhide b24).trans ⟨g5.os, g5.tape, g5.output, g5.size, fun k hk => g5.block k (by have := (unhide b24).size; omega) (by omega)⟩⟩
end
end Go.Proofs.YtalkeooejobjhaaDoor
