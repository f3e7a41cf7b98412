/-
  What more steps of package classify's walk do: a table's name, a variable, a literal, what is found. Conditions: as the other steps'.
-/
import Derived.Test.YtddfbaaghjcbnaaGreatDoorMSu
import Derived.Test.YtddfbaaghjcbnaaGreatDoorKlLib
namespace Go.Proofs.YtddfbaaghjcbnaaGreatDoor
open Go.RowKit
set_option linter.unusedVariables false
set_option linter.unusedSimpArgs false

/-- The steps that are done together. -/
def vaT : St := thn (els (naS [(⟨#[115, 101, 115, 115, 105, 111, 110]⟩ : ByteArray)]) (peS [(⟨#[108, 111, 99, 97, 108]⟩ : ByteArray)])) nmS
theorem vaS_eq : vaS = tog vaT := rfl
def syT : St := thn (wnS [7]) unS
theorem syS_eq : syS = tog syT := rfl
def sgT (s : ByteArray) : St := thn (siS s) (wvS [4])

theorem kl_app (a b : ByteArray) : bl (a ++ b) = bl a ++ bl b := by
  show (a ++ b).data.toList = a.data.toList ++ b.data.toList
  rw [ByteArray.data_append, Array.toList_append]
theorem kl_size (a b : ByteArray) : (a ++ b).size = a.size + b.size := ByteArray.size_append
theorem cat3 (a b : ByteArray) : a ++ ⟨#[46]⟩ ++ b = ba (bl a ++ [46] ++ bl b) := by
  have : bl (a ++ ⟨#[46]⟩ ++ b) = bl a ++ [46] ++ bl b := by rw [kl_app, kl_app]; rfl
  rw [← this, ba_bl]
theorem cat2 (a b : ByteArray) : a ++ b = ba (bl a ++ bl b) := by rw [← kl_app, ba_bl]
theorem wnS_wb {ks : List Int} {S S1 : WS} {R : Bool} (hb : WB S) (h : wnS ks S = (R, S1)) : WB S1 := by
  obtain ⟨l, nm, va⟩ := S
  cases l with
  | nil => simp only [wnS, Prod.mk.injEq] at h; rw [← h.2]; exact hb
  | cons p r =>
    simp only [wnS] at h
    split at h
    · simp only [Prod.mk.injEq] at h
      rw [← h.2]
      exact ⟨fun x hx => hb.tx x (by simp [hx]), by have := hb.tx p (by simp); simp only; omega, hb.va⟩
    · simp only [Prod.mk.injEq] at h; rw [← h.2]; exact hb
theorem wnS_sz {ks : List Int} {S S1 : WS} (hb : WB S) (h : wnS ks S = (true, S1)) : S1.nm.size ≤ 1073741824 := by
  obtain ⟨l, nm, va⟩ := S
  cases l with
  | nil => simp [wnS] at h
  | cons p r =>
    simp only [wnS] at h
    split at h
    · simp only [Prod.mk.injEq] at h
      rw [← h.2]
      exact hb.tx p (by simp)
    · simp at h
theorem wvS_sz {ks : List Int} {S S1 : WS} (hb : WB S) (h : wvS ks S = (true, S1)) : S1.va.size ≤ 1073741824 := by
  obtain ⟨l, nm, va⟩ := S
  cases l with
  | nil => simp [wvS] at h
  | cons p r =>
    simp only [wvS] at h
    split at h
    · simp only [Prod.mk.injEq] at h
      rw [← h.2]
      exact hb.tx p (by simp)
    · simp at h
theorem siS_wb {s : ByteArray} {S S1 : WS} {R : Bool} (hb : WB S) (h : siS s S = (R, S1)) : WB S1 := by
  obtain ⟨l, nm, va⟩ := S
  cases l with
  | nil => simp only [siS, Prod.mk.injEq] at h; rw [← h.2]; exact hb
  | cons p r =>
    simp only [siS] at h
    split at h
    · simp only [Prod.mk.injEq] at h
      rw [← h.2]
      exact ⟨fun x hx => hb.tx x (by simp [hx]), hb.nm, hb.va⟩
    · simp only [Prod.mk.injEq] at h; rw [← h.2]; exact hb
theorem nmS_wb {S S1 : WS} {R : Bool} (hb : WB S) (h : nmS S = (R, S1)) : WB S1 := wnS_wb hb h
theorem nmS_sz {S S1 : WS} (hb : WB S) (h : nmS S = (true, S1)) : S1.nm.size ≤ 1073741824 := wnS_sz hb h
theorem ptS_sz {S S1 : WS} (hb : WB S) (h : tog ptS S = (true, S1)) : S1.nm.size ≤ 1073741824 := by
  unfold tog ptS thn at h
  rcases h1 : siS (ba [46]) S with ⟨_ | _, S2⟩
  · simp [h1] at h
  · rcases h2 : nmS S2 with ⟨_ | _, S3⟩
    · simp [h1, h2] at h
    · simp only [h1, h2, if_true, Prod.mk.injEq, true_and] at h
      rw [← h]
      exact nmS_sz (siS_wb hb h1) h2
theorem sgT_sz {s : ByteArray} {S S1 : WS} (hb : WB S) (h : tog (sgT s) S = (true, S1)) : S1.va.size ≤ 1073741824 := by
  unfold tog sgT thn at h
  rcases h1 : siS s S with ⟨_ | _, S2⟩
  · simp [h1] at h
  · rcases h2 : wvS [4] S2 with ⟨_ | _, S3⟩
    · simp [h1, h2] at h
    · simp only [h1, h2, if_true, Prod.mk.injEq, true_and] at h
      rw [← h]
      exact wvS_sz (siS_wb hb h1) h2

set_option maxHeartbeats 1000000 in
theorem tableF_any (B g : Nat) (S0 : WS) (w0 : World) (hK : Wk B g S0 w0) : Calls Tryz.prog 111 #[.pointer (some ⟨g, 0, none⟩)] w0 (OutS B g w0 (ptS S0).1 (ptS S0).2) := by
  have hk0 := hK
  have q0 := Below.refl g w0
  clear hK
  rcases h1 : siS (ba [46]) S0 with ⟨_ | _, S1⟩
  · rw [show ptS S0 = (false, S1) by simp only [ptS, thn, els, fou, if_true, if_false, Bool.false_eq_true, h1]]
    have H1 := hide h1
    clear h1
    go_enter Tryz.func111, Tryz.ntmps111
    go_wp2_with (first | (go_at_call 80; refine (sg_46 B g S0 _ _ _ hk0 (unhide H1)).mono ?_; rintro e w1 ⟨rfl, hk1, b1⟩; have q1 := q0.trans b1))
    go_ret
    exact ⟨rfl, hk1, q1⟩
  · rcases h2 : nmS S1 with ⟨_ | _, S2⟩
    · rw [show ptS S0 = (false, S2) by simp only [ptS, thn, els, fou, if_true, if_false, Bool.false_eq_true, h1, h2]]
      have H1 := hide h1
      have H2 := hide h2
      clear h1 h2
      go_enter Tryz.func111, Tryz.ntmps111
      go_wp2_with (first | (go_at_call 91; refine (named_st B g S1 _ _ _ hk1 (unhide H2)).mono ?_; rintro e w2 ⟨rfl, hk2, b2⟩; have q2 := q1.trans b2) | (go_at_call 80; refine (sg_46 B g S0 _ _ _ hk0 (unhide H1)).mono ?_; rintro e w1 ⟨rfl, hk1, b1⟩; have q1 := q0.trans b1))
      go_ret
      exact ⟨rfl, hk2, q2⟩
    · rw [show ptS S0 = (true, S2) by simp only [ptS, thn, els, fou, if_true, if_false, Bool.false_eq_true, h1, h2]]
      have H1 := hide h1
      have H2 := hide h2
      clear h1 h2
      go_enter Tryz.func111, Tryz.ntmps111
      go_wp2_with (first | (go_at_call 91; refine (named_st B g S1 _ _ _ hk1 (unhide H2)).mono ?_; rintro e w2 ⟨rfl, hk2, b2⟩; have q2 := q1.trans b2) | (go_at_call 80; refine (sg_46 B g S0 _ _ _ hk0 (unhide H1)).mono ?_; rintro e w1 ⟨rfl, hk1, b1⟩; have q1 := q0.trans b1))
      go_ret
      exact ⟨rfl, hk2, q2⟩

set_option maxHeartbeats 1000000 in
theorem variableF_any (B g : Nat) (S0 : WS) (w0 : World) (hK : Wk B g S0 w0) : Calls Tryz.prog 113 #[.pointer (some ⟨g, 0, none⟩)] w0 (OutS B g w0 (vaT S0).1 (vaT S0).2) := by
  have hk0 := hK
  have q0 := Below.refl g w0
  clear hK
  rcases h1 : naS [(⟨#[115, 101, 115, 115, 105, 111, 110]⟩ : ByteArray)] S0 with ⟨_ | _, S1⟩
  · obtain ⟨S2, h2⟩ : ∃ S, peS [(⟨#[108, 111, 99, 97, 108]⟩ : ByteArray)] S1 = (true, S) := ⟨_, rfl⟩
    rcases h3 : nmS S2 with ⟨_ | _, S3⟩
    · rw [show vaT S0 = (false, S3) by simp only [vaT, thn, els, fou, if_true, if_false, Bool.false_eq_true, h1, h2, h3]]
      have H1 := hide h1
      have H2 := hide h2
      have H3 := hide h3
      clear h1 h2 h3
      go_enter Tryz.func113, Tryz.ntmps113
      go_wp2_with (first | (go_at_call 91; refine (named_st B g S2 _ _ _ hk2 (unhide H3)).mono ?_; rintro e w3 ⟨rfl, hk3, b3⟩; have q3 := q2.trans b3) | (go_at_call 86; refine (pl_local B g S1 _ _ _ hk1 (unhide H2)).mono ?_; rintro e w2 ⟨rfl, hk2, b2⟩; have q2 := q1.trans b2) | (go_at_call 79; refine (nl_session B g S0 _ _ _ hk0 (unhide H1)).mono ?_; rintro e w1 ⟨rfl, hk1, b1⟩; have q1 := q0.trans b1))
      go_ret
      exact ⟨rfl, hk3, q3⟩
    · rw [show vaT S0 = (true, S3) by simp only [vaT, thn, els, fou, if_true, if_false, Bool.false_eq_true, h1, h2, h3]]
      have H1 := hide h1
      have H2 := hide h2
      have H3 := hide h3
      clear h1 h2 h3
      go_enter Tryz.func113, Tryz.ntmps113
      go_wp2_with (first | (go_at_call 91; refine (named_st B g S2 _ _ _ hk2 (unhide H3)).mono ?_; rintro e w3 ⟨rfl, hk3, b3⟩; have q3 := q2.trans b3) | (go_at_call 86; refine (pl_local B g S1 _ _ _ hk1 (unhide H2)).mono ?_; rintro e w2 ⟨rfl, hk2, b2⟩; have q2 := q1.trans b2) | (go_at_call 79; refine (nl_session B g S0 _ _ _ hk0 (unhide H1)).mono ?_; rintro e w1 ⟨rfl, hk1, b1⟩; have q1 := q0.trans b1))
      go_ret
      exact ⟨rfl, hk3, q3⟩
  · rcases h2 : nmS S1 with ⟨_ | _, S2⟩
    · rw [show vaT S0 = (false, S2) by simp only [vaT, thn, els, fou, if_true, if_false, Bool.false_eq_true, h1, h2]]
      have H1 := hide h1
      have H2 := hide h2
      clear h1 h2
      go_enter Tryz.func113, Tryz.ntmps113
      go_wp2_with (first | (go_at_call 91; refine (named_st B g S1 _ _ _ hk1 (unhide H2)).mono ?_; rintro e w2 ⟨rfl, hk2, b2⟩; have q2 := q1.trans b2) | (go_at_call 79; refine (nl_session B g S0 _ _ _ hk0 (unhide H1)).mono ?_; rintro e w1 ⟨rfl, hk1, b1⟩; have q1 := q0.trans b1))
      go_ret
      exact ⟨rfl, hk2, q2⟩
    · rw [show vaT S0 = (true, S2) by simp only [vaT, thn, els, fou, if_true, if_false, Bool.false_eq_true, h1, h2]]
      have H1 := hide h1
      have H2 := hide h2
      clear h1 h2
      go_enter Tryz.func113, Tryz.ntmps113
      go_wp2_with (first | (go_at_call 91; refine (named_st B g S1 _ _ _ hk1 (unhide H2)).mono ?_; rintro e w2 ⟨rfl, hk2, b2⟩; have q2 := q1.trans b2) | (go_at_call 79; refine (nl_session B g S0 _ _ _ hk0 (unhide H1)).mono ?_; rintro e w1 ⟨rfl, hk1, b1⟩; have q1 := q0.trans b1))
      go_ret
      exact ⟨rfl, hk2, q2⟩

theorem tableF_e : ∀ args w, (callFunc 111 args).run Tryz.prog w = .ok (.enter 111 args) w := enters_of Tryz.func111 (by kernel_rfl) rfl
theorem variableF_e : ∀ args w, (callFunc 113 args).run Tryz.prog w = .ok (.enter 113 args) w := enters_of Tryz.func113 (by kernel_rfl) rfl
theorem systemF_e : ∀ args w, (callFunc 114 args).run Tryz.prog w = .ok (.enter 114 args) w := enters_of Tryz.func114 (by kernel_rfl) rfl
theorem signedF_e : ∀ args w, (callFunc 122 args).run Tryz.prog w = .ok (.enter 122 args) w := enters_of Tryz.func122 (by kernel_rfl) rfl

set_option maxHeartbeats 1000000 in
theorem variable_any (B g : Nat) (S0 : WS) (w0 : World) (hK : Wk B g S0 w0) : Calls Tryz.prog 88 #[.pointer (some ⟨g, 0, none⟩)] w0 (OutS B g w0 (vaS S0).1 (vaS S0).2) := by
  have c := together_any B g S0 113 #[] vaT w0 hK variableF_e (fun q wx _ _ h => variableF_any B q S0 wx h)
  rw [← vaS_eq] at c
  generalize vaS S0 = P at *
  obtain ⟨R, S1⟩ := P
  have C := hide c
  clear c hK
  go_enter Tryz.func88, Tryz.ntmps88
  go_wp2_with (go_at_call 110; refine (unhide C).mono ?_; rintro e w1 ⟨⟨rfl, hk1, b1⟩, k1⟩)
  go_ret
  exact ⟨rfl, hk1, b1⟩

set_option maxHeartbeats 1000000 in
theorem table_any (B g : Nat) (S0 : WS) (w0 : World) (hK : Wk B g S0 w0) : Calls Tryz.prog 84 #[.pointer (some ⟨g, 0, none⟩)] w0 (OutS B g w0 (taS S0).1 (taS S0).2) := by
  have hk0 := hK
  clear hK
  unfold taS
  rcases h1 : nmS S0 with ⟨_ | _, S1⟩
  · simp only [Bool.false_eq_true, if_false]
    have H1 := hide h1
    clear h1
    go_enter Tryz.func84, Tryz.ntmps84
    go_wp2_with (go_at_call 91; refine (named_st B g S0 _ _ _ hk0 (unhide H1)).mono ?_; rintro e w1 ⟨rfl, hk1, b1⟩)
    go_ret
    exact ⟨rfl, hk1, b1⟩
  · simp only [if_true]
    have H1 := hide h1
    have HB0 := hide hk0.wb
    have HB1 := hide (nmS_wb hk0.wb h1)
    have CT := hide (fun (wx : World) (hx : Wk B g S1 wx) => together_any B g S1 111 #[] ptS wx hx tableF_e (fun q wy _ _ h => tableF_any B q S1 wy h))
    clear h1
    rcases h2 : tog ptS S1 with ⟨_ | _, S2⟩
    · simp only [h2] at CT
      simp only [Bool.false_eq_true, if_false]
      have H2 := hide h2
      clear h2
      go_enter Tryz.func84, Tryz.ntmps84
      go_wp2_with (first | (go_at_call 110; refine (unhide CT w1 hk1).mono ?_; rintro e w2 ⟨⟨rfl, hk2, b2⟩, k2⟩) | (go_at_call 91; refine (named_st B g S0 _ _ _ hk0 (unhide H1)).mono ?_; rintro e w1 ⟨rfl, hk1, b1⟩; obtain ⟨ao1, n1, c1, hA1⟩ := hk1; have u1 := hA1.c1; have hk1 := hA1.wk; clear hA1))
      go_ret
      exact ⟨rfl, hk2, b1.trans b2⟩
    · simp only [h2] at CT
      simp only [if_true]
      have H2 := hide h2
      have z1 := hide (show ∀ w, Wk B g S1 w → S1.nm.size ≤ 3221225472 from fun w h => h.wb.nm)
      have z2 := hide (show ∀ w, Wk B g S2 w → S2.nm.size ≤ 3221225472 from fun w h => h.wb.nm)
      clear h2
      go_enter Tryz.func84, Tryz.ntmps84
      go_wp2_with (first | (go_at_call 110; refine (unhide CT w1 hk1).mono ?_; rintro e w2 ⟨⟨rfl, hk2, b2⟩, k2⟩; have y2 := unhide z2 w2 hk2; obtain ⟨ao2, n2, c2, hA2⟩ := hk2; have u2 := hA2.c1; have f2 := hA2.fr 1; have HA2 := hide hA2; clear hA2; have g1 : ¬ 9223372036854775807 < S1.nm.size + 1 := (by omega); have g2 : ¬ 9223372036854775807 < S1.nm.size + 1 + S2.nm.size := (by omega)) | (go_at_call 91; refine (named_st B g S0 _ _ _ hk0 (unhide H1)).mono ?_; rintro e w1 ⟨rfl, hk1, b1⟩; have y1 := unhide z1 w1 hk1; obtain ⟨ao1, n1, c1, hA1⟩ := hk1; have u1 := hA1.c1; have hk1 := hA1.wk; clear hA1))
      go_ret
      have s1 := nmS_sz (unhide HB0) (unhide H1)
      have s2 := ptS_sz (unhide HB1) (unhide H2)
      have e3 := cat3 S1.nm S2.nm
      exact OutS.of rfl (by rw [e3]) ⟨_, _, _, (unhide HA2).set1 (v := S1.nm ++ ⟨#[46]⟩ ++ S2.nm) (by rw [kl_size, kl_size]; have : (⟨#[46]⟩ : ByteArray).size = 1 := rfl; omega)⟩ ((b1.trans b2).trans (below_set g 1 w2 _))

theorem cutS_st (s : ByteArray) (w : World) (b : Bool) (h : sSessP.isPrefixOf (bl s) = b) : Calls Tryz.prog 73 #[.string s, .string ⟨#[115, 101, 115, 115, 105, 111, 110, 46]⟩] w fun e w' => e = .returned (.tuple #[.string (ba (if b = true then (bl s).drop 8 else bl s)), .bool b]) ∧ w' = w := by
  have c := Tryz.strings_CutPrefix s ⟨#[115, 101, 115, 115, 105, 111, 110, 46]⟩ w
  have e : Lib.hasPrefix s.data.toList (⟨#[115, 101, 115, 115, 105, 111, 110, 46]⟩ : ByteArray).data.toList = b := h
  unfold Lib.trimPrefix at c
  rw [e] at c
  exact c
theorem trimS_st (s : ByteArray) (w : World) (b : Bool) (h : sLocalP.isPrefixOf (bl s) = b) : Calls Tryz.prog 123 #[.string s, .string ⟨#[108, 111, 99, 97, 108, 46]⟩] w fun e w' => e = .returned (.string (ba (if b = true then (bl s).drop 6 else bl s))) ∧ w' = w := by
  have c := Tryz.strings_TrimPrefix s ⟨#[108, 111, 99, 97, 108, 46]⟩ w
  have e : Lib.hasPrefix s.data.toList (⟨#[108, 111, 99, 97, 108, 46]⟩ : ByteArray).data.toList = b := h
  unfold Lib.trimPrefix at c
  rw [e] at c
  exact c
theorem point_st (s : ByteArray) (w : World) (b : Bool) (h : (bl s).contains 46 = b) : Calls Tryz.prog 125 #[.string s, .string ⟨#[46]⟩] w fun e w' => e = .returned (.bool b) ∧ w' = w := by
  have c := Tryz.strings_Contains_one s 46 w
  rw [← Lib.contains_iff_indexByte] at c
  rw [← h]
  exact c
theorem trim_st (s : ByteArray) (w : World) (hs : s.size ≤ 4294967280) (b : Bool) (h : (bl s).any nd = b) : Calls Tryz.prog 124 #[.string s, .string ⟨#[48, 49, 50, 51, 52, 53, 54, 55, 56, 57]⟩] w fun e w' => ∃ r : ByteArray, e = .returned (.string r) ∧ (r.toList.isEmpty = !b) ∧ Below w.heap.size w w' := by
  refine (trim_any s w hs).mono ?_
  rintro e w' ⟨r, rfl, h1, h2⟩
  refine ⟨r, rfl, ?_, h2⟩
  rw [h] at h1
  rw [← h1, ByteArray.toList_eq]
  show r.data.toList.isEmpty = !decide (bl r ≠ [])
  unfold bl
  cases r.data.toList <;> simp

set_option maxHeartbeats 2000000 in
theorem unscoped_any (B g : Nat) (S0 : WS) (w0 : World) (hK : Wk B g S0 w0) : Calls Tryz.prog 115 #[.pointer (some ⟨g, 0, none⟩)] w0 (OutS B g w0 (unS S0).1 (unS S0).2) := by
  have hz := hK.wb.nm
  obtain ⟨ao, n, c, hA⟩ := hK
  have u0 := hA.c1
  have f0 := hA.fr 1
  have HA := hide hA
  clear hA
  unfold unS goodN bare
  rw [show (fun c : UInt8 => !digB c) = nd from rfl]
  cases h1 : sSessP.isPrefixOf (bl S0.nm) with
  | true =>
    simp only [if_true]
    have C1 := hide (cutS_st S0.nm w0 true h1)
    simp only [if_true] at C1
    have hz2 : (ba ((bl S0.nm).drop 8)).size ≤ 3221225472 := by rw [ba_size, List.length_drop, bl_len]; omega
    have hb : bl (ba ((bl S0.nm).drop 8)) = (bl S0.nm).drop 8 := rfl
    rw [← hb]
    generalize ba ((bl S0.nm).drop 8) = N at *
    clear h1 hb
    cases h2 : (bl N).any nd with
    | false =>
      have C2 := hide (fun wx => trim_st N wx (by omega) false h2)
      simp only [Bool.false_and, Bool.not_false] at C2 ⊢
      clear h2
      go_enter Tryz.func115, Tryz.ntmps115
      go_wp2_with (first | (go_at_call 73; refine same_world (unhide C1) ?_) | (go_at_call 124; refine (unhide C2 _).mono ?_; rintro e w2 ⟨r, rfl, hr, b2⟩))
      go_ret
      have hk := (unhide HA).set1 (v := N) hz2
      exact OutS.of rfl rfl (hk.later b2).wk ((below_set g 1 w0 _).trans (b2.mono (Nat.le_of_lt hk.lt)))
    | true =>
      have C2 := hide (fun wx => trim_st N wx (by omega) true h2)
      simp only [Bool.not_true] at C2
      cases h3 : (bl N).contains 46 with
      | false =>
        have C3 := hide (fun wx => point_st N wx false h3)
        simp only [Bool.true_and, Bool.not_false, Bool.not_true]
        clear h2 h3
        go_enter Tryz.func115, Tryz.ntmps115
        go_wp2_with (first | (go_at_call 125; refine same_world (unhide C3 _) ?_) | (go_at_call 73; refine same_world (unhide C1) ?_) | (go_at_call 124; refine (unhide C2 _).mono ?_; rintro e w2 ⟨r, rfl, hr, b2⟩))
        go_ret
        have hk := (unhide HA).set1 (v := N) hz2
        exact OutS.of rfl rfl (hk.later b2).wk ((below_set g 1 w0 _).trans (b2.mono (Nat.le_of_lt hk.lt)))
      | true =>
        have C3 := hide (fun wx => point_st N wx true h3)
        simp only [Bool.true_and, Bool.not_false, Bool.not_true]
        clear h2 h3
        go_enter Tryz.func115, Tryz.ntmps115
        go_wp2_with (first | (go_at_call 125; refine same_world (unhide C3 _) ?_) | (go_at_call 73; refine same_world (unhide C1) ?_) | (go_at_call 124; refine (unhide C2 _).mono ?_; rintro e w2 ⟨r, rfl, hr, b2⟩))
        go_ret
        have hk := (unhide HA).set1 (v := N) hz2
        exact OutS.of rfl rfl (hk.later b2).wk ((below_set g 1 w0 _).trans (b2.mono (Nat.le_of_lt hk.lt)))
  | false =>
    simp only [Bool.false_eq_true, if_false]
    have C1 := hide (cutS_st S0.nm w0 false h1)
    simp only [Bool.false_eq_true, if_false, ba_bl] at C1
    clear h1
    cases h4 : sLocalP.isPrefixOf (bl S0.nm) with
    | true =>
      simp only [if_true]
      have C4 := hide (trimS_st S0.nm w0 true h4)
      simp only [if_true] at C4
      have hz2 : (ba ((bl S0.nm).drop 6)).size ≤ 3221225472 := by rw [ba_size, List.length_drop, bl_len]; omega
      have hb : bl (ba ((bl S0.nm).drop 6)) = (bl S0.nm).drop 6 := rfl
      rw [← hb]
      generalize ba ((bl S0.nm).drop 6) = N at *
      clear h4 hb
      cases h2 : (bl N).any nd with
      | false =>
        have C2 := hide (fun wx => trim_st N wx (by omega) false h2)
        simp only [Bool.false_and, Bool.not_false] at C2 ⊢
        clear h2
        go_enter Tryz.func115, Tryz.ntmps115
        go_wp2_with (first | (go_at_call 73; refine same_world (unhide C1) ?_) | (go_at_call 123; refine same_world (unhide C4) ?_) | (go_at_call 124; refine (unhide C2 _).mono ?_; rintro e w2 ⟨r, rfl, hr, b2⟩))
        go_ret
        have hk := (unhide HA).set1 (v := N) hz2
        exact OutS.of rfl rfl (hk.later b2).wk ((below_set g 1 w0 _).trans (b2.mono (Nat.le_of_lt hk.lt)))
      | true =>
        have C2 := hide (fun wx => trim_st N wx (by omega) true h2)
        simp only [Bool.not_true] at C2
        cases h3 : (bl N).contains 46 with
        | false =>
          have C3 := hide (fun wx => point_st N wx false h3)
          simp only [Bool.true_and, Bool.not_false, Bool.not_true]
          clear h2 h3
          go_enter Tryz.func115, Tryz.ntmps115
          go_wp2_with (first | (go_at_call 125; refine same_world (unhide C3 _) ?_) | (go_at_call 73; refine same_world (unhide C1) ?_) | (go_at_call 123; refine same_world (unhide C4) ?_) | (go_at_call 124; refine (unhide C2 _).mono ?_; rintro e w2 ⟨r, rfl, hr, b2⟩))
          go_ret
          have hk := (unhide HA).set1 (v := N) hz2
          exact OutS.of rfl rfl (hk.later b2).wk ((below_set g 1 w0 _).trans (b2.mono (Nat.le_of_lt hk.lt)))
        | true =>
          have C3 := hide (fun wx => point_st N wx true h3)
          simp only [Bool.true_and, Bool.not_false, Bool.not_true]
          clear h2 h3
          go_enter Tryz.func115, Tryz.ntmps115
          go_wp2_with (first | (go_at_call 125; refine same_world (unhide C3 _) ?_) | (go_at_call 73; refine same_world (unhide C1) ?_) | (go_at_call 123; refine same_world (unhide C4) ?_) | (go_at_call 124; refine (unhide C2 _).mono ?_; rintro e w2 ⟨r, rfl, hr, b2⟩))
          go_ret
          have hk := (unhide HA).set1 (v := N) hz2
          exact OutS.of rfl rfl (hk.later b2).wk ((below_set g 1 w0 _).trans (b2.mono (Nat.le_of_lt hk.lt)))
    | false =>
      simp only [Bool.false_eq_true, if_false, ba_bl]
      have C4 := hide (trimS_st S0.nm w0 false h4)
      simp only [Bool.false_eq_true, if_false, ba_bl] at C4
      have hz2 : S0.nm.size ≤ 3221225472 := hz
      clear h4
      cases h2 : (bl S0.nm).any nd with
      | false =>
        have C2 := hide (fun wx => trim_st S0.nm wx (by omega) false h2)
        simp only [Bool.false_and, Bool.not_false] at C2 ⊢
        clear h2
        go_enter Tryz.func115, Tryz.ntmps115
        go_wp2_with (first | (go_at_call 73; refine same_world (unhide C1) ?_) | (go_at_call 123; refine same_world (unhide C4) ?_) | (go_at_call 124; refine (unhide C2 _).mono ?_; rintro e w2 ⟨r, rfl, hr, b2⟩))
        go_ret
        have hk := (unhide HA).set1 (v := S0.nm) hz2
        exact OutS.of rfl rfl (hk.later b2).wk ((below_set g 1 w0 _).trans (b2.mono (Nat.le_of_lt hk.lt)))
      | true =>
        have C2 := hide (fun wx => trim_st S0.nm wx (by omega) true h2)
        simp only [Bool.not_true] at C2
        cases h3 : (bl S0.nm).contains 46 with
        | false =>
          have C3 := hide (fun wx => point_st S0.nm wx false h3)
          simp only [Bool.true_and, Bool.not_false, Bool.not_true]
          clear h2 h3
          go_enter Tryz.func115, Tryz.ntmps115
          go_wp2_with (first | (go_at_call 125; refine same_world (unhide C3 _) ?_) | (go_at_call 73; refine same_world (unhide C1) ?_) | (go_at_call 123; refine same_world (unhide C4) ?_) | (go_at_call 124; refine (unhide C2 _).mono ?_; rintro e w2 ⟨r, rfl, hr, b2⟩))
          go_ret
          have hk := (unhide HA).set1 (v := S0.nm) hz2
          exact OutS.of rfl rfl (hk.later b2).wk ((below_set g 1 w0 _).trans (b2.mono (Nat.le_of_lt hk.lt)))
        | true =>
          have C3 := hide (fun wx => point_st S0.nm wx true h3)
          simp only [Bool.true_and, Bool.not_false, Bool.not_true]
          clear h2 h3
          go_enter Tryz.func115, Tryz.ntmps115
          go_wp2_with (first | (go_at_call 125; refine same_world (unhide C3 _) ?_) | (go_at_call 73; refine same_world (unhide C1) ?_) | (go_at_call 123; refine same_world (unhide C4) ?_) | (go_at_call 124; refine (unhide C2 _).mono ?_; rintro e w2 ⟨r, rfl, hr, b2⟩))
          go_ret
          have hk := (unhide HA).set1 (v := S0.nm) hz2
          exact OutS.of rfl rfl (hk.later b2).wk ((below_set g 1 w0 _).trans (b2.mono (Nat.le_of_lt hk.lt)))

theorem unscoped_st (B g : Nat) (S : WS) (R : Bool) (S1 : WS) (w : World) (hK : Wk B g S w) (h : unS S = (R, S1)) : Calls Tryz.prog 115 #[.pointer (some ⟨g, 0, none⟩)] w (OutS B g w R S1) := by
  have c := unscoped_any B g S w hK
  rw [h] at c
  exact c

set_option maxHeartbeats 1000000 in
theorem systemF_any (B g : Nat) (S0 : WS) (w0 : World) (hK : Wk B g S0 w0) : Calls Tryz.prog 114 #[.pointer (some ⟨g, 0, none⟩)] w0 (OutS B g w0 (syT S0).1 (syT S0).2) := by
  have hk0 := hK
  have q0 := Below.refl g w0
  clear hK
  rcases h1 : wnS [7] S0 with ⟨_ | _, S1⟩
  · rw [show syT S0 = (false, S1) by simp only [syT, thn, els, fou, if_true, if_false, Bool.false_eq_true, h1]]
    have H1 := hide h1
    clear h1
    go_enter Tryz.func114, Tryz.ntmps114
    go_wp2_with (first | (go_at_call 81; refine (wn_7 B g S0 _ _ _ hk0 (unhide H1)).mono ?_; rintro e w1 ⟨rfl, hk1, b1⟩; have q1 := q0.trans b1))
    go_ret
    exact ⟨rfl, hk1, q1⟩
  · rcases h2 : unS S1 with ⟨_ | _, S2⟩
    · rw [show syT S0 = (false, S2) by simp only [syT, thn, els, fou, if_true, if_false, Bool.false_eq_true, h1, h2]]
      have H1 := hide h1
      have H2 := hide h2
      clear h1 h2
      go_enter Tryz.func114, Tryz.ntmps114
      go_wp2_with (first | (go_at_call 115; refine (unscoped_st B g S1 _ _ _ hk1 (unhide H2)).mono ?_; rintro e w2 ⟨rfl, hk2, b2⟩; have q2 := q1.trans b2) | (go_at_call 81; refine (wn_7 B g S0 _ _ _ hk0 (unhide H1)).mono ?_; rintro e w1 ⟨rfl, hk1, b1⟩; have q1 := q0.trans b1))
      go_ret
      exact ⟨rfl, hk2, q2⟩
    · rw [show syT S0 = (true, S2) by simp only [syT, thn, els, fou, if_true, if_false, Bool.false_eq_true, h1, h2]]
      have H1 := hide h1
      have H2 := hide h2
      clear h1 h2
      go_enter Tryz.func114, Tryz.ntmps114
      go_wp2_with (first | (go_at_call 115; refine (unscoped_st B g S1 _ _ _ hk1 (unhide H2)).mono ?_; rintro e w2 ⟨rfl, hk2, b2⟩; have q2 := q1.trans b2) | (go_at_call 81; refine (wn_7 B g S0 _ _ _ hk0 (unhide H1)).mono ?_; rintro e w1 ⟨rfl, hk1, b1⟩; have q1 := q0.trans b1))
      go_ret
      exact ⟨rfl, hk2, q2⟩

set_option maxHeartbeats 1000000 in
theorem system_any (B g : Nat) (S0 : WS) (w0 : World) (hK : Wk B g S0 w0) : Calls Tryz.prog 89 #[.pointer (some ⟨g, 0, none⟩)] w0 (OutS B g w0 (syS S0).1 (syS S0).2) := by
  have c := together_any B g S0 114 #[] syT w0 hK systemF_e (fun q wx _ _ h => systemF_any B q S0 wx h)
  rw [← syS_eq] at c
  generalize syS S0 = P at *
  obtain ⟨R, S1⟩ := P
  have C := hide c
  clear c hK
  go_enter Tryz.func89, Tryz.ntmps89
  go_wp2_with (go_at_call 110; refine (unhide C).mono ?_; rintro e w1 ⟨⟨rfl, hk1, b1⟩, k1⟩)
  go_ret
  exact ⟨rfl, hk1, b1⟩

/-- A text in a block of its own. -/
def Bt (p : Nat) (s : ByteArray) (w : World) : Prop := w.heap[p]? = some (.cells #[.string s] 9 (0, 0))
theorem Bt.cell {p : Nat} {s : ByteArray} {w : World} (h : Bt p s w) : w.cell? ⟨p, 0, none⟩ = some (.string s) := cell_of_row w p 0 _ _ _ h
theorem Bt.lt {p : Nat} {s : ByteArray} {w : World} (h : Bt p s w) : p < w.heap.size := (Array.getElem?_eq_some_iff.1 h).1
theorem Bt.later {p : Nat} {s : ByteArray} {w w' : World} (h : Bt p s w) (hb : Below w.heap.size w w') : Bt p s w' := by
  unfold Bt
  rw [hb.block p h.lt]
  exact h
theorem Bt.keep {p : Nat} {s : ByteArray} {w w' : World} (h : Bt p s w) (hb : w'.heap[p]? = w.heap[p]?) : Bt p s w' := by
  unfold Bt
  rw [hb]
  exact h
theorem Bt.new (s : ByteArray) (w : World) : Bt w.heap.size s (w.alloc (.cells #[.string s] 9)) := heap_alloc_new w _

set_option maxHeartbeats 1000000 in
theorem signedF_any (B g : Nat) (S0 : WS) (w0 : World) (s : ByteArray) (p : Nat) (hP : Bt p s w0) (hK : Wk B g S0 w0) : Calls Tryz.prog 122 #[.pointer (some ⟨g, 0, none⟩), .pointer (some ⟨p, 0, none⟩)] w0 (OutS B g w0 ((sgT s) S0).1 ((sgT s) S0).2) := by
  have hk0 := hK
  have q0 := Below.refl g w0
  have u0 := hP.cell
  clear hK hP
  rcases h1 : siS s S0 with ⟨_ | _, S1⟩
  · rw [show (sgT s) S0 = (false, S1) by simp only [sgT, thn, els, fou, if_true, if_false, Bool.false_eq_true, h1]]
    have H1 := hide h1
    clear h1
    go_enter Tryz.func122, Tryz.ntmps122
    go_wp2_with (first | (go_at_call 80; refine (sign_st B g S0 _ _ s _ hk0 (unhide H1)).mono ?_; rintro e w1 ⟨rfl, hk1, b1⟩; have q1 := q0.trans b1))
    go_ret
    exact ⟨rfl, hk1, q1⟩
  · rcases h2 : wvS [4] S1 with ⟨_ | _, S2⟩
    · rw [show (sgT s) S0 = (false, S2) by simp only [sgT, thn, els, fou, if_true, if_false, Bool.false_eq_true, h1, h2]]
      have H1 := hide h1
      have H2 := hide h2
      clear h1 h2
      go_enter Tryz.func122, Tryz.ntmps122
      go_wp2_with (first | (go_at_call 81; refine (wv_4 B g S1 _ _ _ hk1 (unhide H2)).mono ?_; rintro e w2 ⟨rfl, hk2, b2⟩; have q2 := q1.trans b2) | (go_at_call 80; refine (sign_st B g S0 _ _ s _ hk0 (unhide H1)).mono ?_; rintro e w1 ⟨rfl, hk1, b1⟩; have q1 := q0.trans b1))
      go_ret
      exact ⟨rfl, hk2, q2⟩
    · rw [show (sgT s) S0 = (true, S2) by simp only [sgT, thn, els, fou, if_true, if_false, Bool.false_eq_true, h1, h2]]
      have H1 := hide h1
      have H2 := hide h2
      clear h1 h2
      go_enter Tryz.func122, Tryz.ntmps122
      go_wp2_with (first | (go_at_call 81; refine (wv_4 B g S1 _ _ _ hk1 (unhide H2)).mono ?_; rintro e w2 ⟨rfl, hk2, b2⟩; have q2 := q1.trans b2) | (go_at_call 80; refine (sign_st B g S0 _ _ s _ hk0 (unhide H1)).mono ?_; rintro e w1 ⟨rfl, hk1, b1⟩; have q1 := q0.trans b1))
      go_ret
      exact ⟨rfl, hk2, q2⟩

theorem sgn_eq (s : ByteArray) (S : WS) : sgnS s S = if (tog (sgT s) S).1 then (true, { (tog (sgT s) S).2 with va := ba (bl s ++ bl (tog (sgT s) S).2.va) }) else (false, (tog (sgT s) S).2) := rfl

set_option maxHeartbeats 2000000 in
theorem signed_any (B g : Nat) (S0 : WS) (s : ByteArray) (w0 : World) (hs : s.size ≤ 10) (hK : Wk B g S0 w0) : Calls Tryz.prog 112 #[.pointer (some ⟨g, 0, none⟩), .string s] w0 (OutS B g w0 (sgnS s S0).1 (sgnS s S0).2) := by
  have b0 := below_alloc w0 (.cells #[.string s] 9)
  have p0 := Bt.new s w0
  have n0 : (w0.alloc (.cells #[.string s] 9)).heap.size = w0.heap.size + 1 := by simp
  have hg := hK.lt
  have hwb := hK.wb
  have k0 := hK.later b0
  have c := together_any B g S0 122 #[.pointer (some ⟨w0.heap.size, 0, none⟩)] (sgT s) _ k0 signedF_e (fun q wx hq hb h => signedF_any B q S0 wx s w0.heap.size (p0.later hb) h)
  have P0 := hide p0
  have B0 := hide (b0.mono (Nat.le_of_lt hg))
  rw [n0] at c
  rw [sgn_eq]
  clear p0 b0 k0 hK n0
  rcases h1 : tog (sgT s) S0 with ⟨_ | _, S1⟩
  · rw [h1] at c
    have C := hide c
    simp only [Bool.false_eq_true, if_false]
    clear c h1 hwb
    go_enter Tryz.func112, Tryz.ntmps112
    go_wp2_with (go_at_call 110; refine (unhide C).mono ?_; rintro e w1 ⟨⟨rfl, hk1, b1⟩, k1⟩)
    go_ret
    exact ⟨rfl, hk1, (unhide B0).trans b1⟩
  · rw [h1] at c
    have C := hide c
    simp only [if_true]
    have z1 := sgT_sz hwb h1
    clear c h1 hwb
    go_enter Tryz.func112, Tryz.ntmps112
    go_wp2_with (go_at_call 110; refine (unhide C).mono ?_; rintro e w1 ⟨⟨rfl, hk1, b1⟩, k1⟩; have u3 := ((unhide P0).keep (k1 _ (by omega) (by omega))).cell; obtain ⟨ao1, n1, c1, hA1⟩ := hk1; have u1 := hA1.c2; have f1 := hA1.fr 2; have HA1 := hide hA1; clear hA1; have g1 : ¬ 9223372036854775807 < s.size + S1.va.size := (by omega))
    go_region
    all_goals go_wp2_with fail
    all_goals go_ret
    all_goals
      have hk := (unhide HA1).set2 (v := s ++ S1.va) (by rw [kl_size]; omega)
      exact OutS.of rfl (by rw [cat2]) (hk.later (below_drew _)).wk ((((unhide B0).trans b1).trans (below_set g 2 w1 _)).trans ((below_drew _).mono (Nat.le_of_lt hk.lt)))

theorem signed_43 (B g : Nat) (S : WS) (R : Bool) (S1 : WS) (w : World) (hK : Wk B g S w) (h : sgnS (ba [43]) S = (R, S1)) : Calls Tryz.prog 112 #[.pointer (some ⟨g, 0, none⟩), .string ⟨#[43]⟩] w (OutS B g w R S1) := by
  have c := signed_any B g S (ba [43]) w (by rw [ba_size]; decide) hK
  rw [h] at c
  exact c
theorem signed_45 (B g : Nat) (S : WS) (R : Bool) (S1 : WS) (w : World) (hK : Wk B g S w) (h : sgnS (ba [45]) S = (R, S1)) : Calls Tryz.prog 112 #[.pointer (some ⟨g, 0, none⟩), .string ⟨#[45]⟩] w (OutS B g w R S1) := by
  have c := signed_any B g S (ba [45]) w (by rw [ba_size]; decide) hK
  rw [h] at c
  exact c

set_option maxHeartbeats 1000000 in
theorem literal_any (B g : Nat) (S0 : WS) (w0 : World) (hK : Wk B g S0 w0) : Calls Tryz.prog 87 #[.pointer (some ⟨g, 0, none⟩)] w0 (OutS B g w0 (liS S0).1 (liS S0).2) := by
  have hk0 := hK
  have q0 := Below.refl g w0
  clear hK
  rcases h1 : wvS [3, 4, 1, 2] S0 with ⟨_ | _, S1⟩
  · rcases h2 : sgnS (ba [43]) S1 with ⟨_ | _, S2⟩
    · rcases h3 : sgnS (ba [45]) S2 with ⟨_ | _, S3⟩
      · rw [show liS S0 = (false, S3) by simp only [liS, thn, els, fou, if_true, if_false, Bool.false_eq_true, h1, h2, h3]]
        have H1 := hide h1
        have H2 := hide h2
        have H3 := hide h3
        clear h1 h2 h3
        go_enter Tryz.func87, Tryz.ntmps87
        go_wp2_with (first | (go_at_call 112; refine (signed_45 B g S2 _ _ _ hk2 (unhide H3)).mono ?_; rintro e w3 ⟨rfl, hk3, b3⟩; have q3 := q2.trans b3) | (go_at_call 112; refine (signed_43 B g S1 _ _ _ hk1 (unhide H2)).mono ?_; rintro e w2 ⟨rfl, hk2, b2⟩; have q2 := q1.trans b2) | (go_at_call 81; refine (wv_l B g S0 _ _ _ hk0 (unhide H1)).mono ?_; rintro e w1 ⟨rfl, hk1, b1⟩; have q1 := q0.trans b1))
        go_ret
        exact ⟨rfl, hk3, q3⟩
      · rw [show liS S0 = (true, S3) by simp only [liS, thn, els, fou, if_true, if_false, Bool.false_eq_true, h1, h2, h3]]
        have H1 := hide h1
        have H2 := hide h2
        have H3 := hide h3
        clear h1 h2 h3
        go_enter Tryz.func87, Tryz.ntmps87
        go_wp2_with (first | (go_at_call 112; refine (signed_45 B g S2 _ _ _ hk2 (unhide H3)).mono ?_; rintro e w3 ⟨rfl, hk3, b3⟩; have q3 := q2.trans b3) | (go_at_call 112; refine (signed_43 B g S1 _ _ _ hk1 (unhide H2)).mono ?_; rintro e w2 ⟨rfl, hk2, b2⟩; have q2 := q1.trans b2) | (go_at_call 81; refine (wv_l B g S0 _ _ _ hk0 (unhide H1)).mono ?_; rintro e w1 ⟨rfl, hk1, b1⟩; have q1 := q0.trans b1))
        go_ret
        exact ⟨rfl, hk3, q3⟩
    · rw [show liS S0 = (true, S2) by simp only [liS, thn, els, fou, if_true, if_false, Bool.false_eq_true, h1, h2]]
      have H1 := hide h1
      have H2 := hide h2
      clear h1 h2
      go_enter Tryz.func87, Tryz.ntmps87
      go_wp2_with (first | (go_at_call 112; refine (signed_43 B g S1 _ _ _ hk1 (unhide H2)).mono ?_; rintro e w2 ⟨rfl, hk2, b2⟩; have q2 := q1.trans b2) | (go_at_call 81; refine (wv_l B g S0 _ _ _ hk0 (unhide H1)).mono ?_; rintro e w1 ⟨rfl, hk1, b1⟩; have q1 := q0.trans b1))
      go_ret
      exact ⟨rfl, hk2, q2⟩
  · rw [show liS S0 = (true, S1) by simp only [liS, thn, els, fou, if_true, if_false, Bool.false_eq_true, h1]]
    have H1 := hide h1
    clear h1
    go_enter Tryz.func87, Tryz.ntmps87
    go_wp2_with (first | (go_at_call 81; refine (wv_l B g S0 _ _ _ hk0 (unhide H1)).mono ?_; rintro e w1 ⟨rfl, hk1, b1⟩; have q1 := q0.trans b1))
    go_ret
    exact ⟨rfl, hk1, q1⟩

theorem table_st (B g : Nat) (S : WS) (R : Bool) (S1 : WS) (w : World) (hK : Wk B g S w) (h : taS S = (R, S1)) : Calls Tryz.prog 84 #[.pointer (some ⟨g, 0, none⟩)] w (OutS B g w R S1) := by
  have c := table_any B g S w hK
  rw [h] at c
  exact c
theorem variable_st (B g : Nat) (S : WS) (R : Bool) (S1 : WS) (w : World) (hK : Wk B g S w) (h : vaS S = (R, S1)) : Calls Tryz.prog 88 #[.pointer (some ⟨g, 0, none⟩)] w (OutS B g w R S1) := by
  have c := variable_any B g S w hK
  rw [h] at c
  exact c
theorem system_st (B g : Nat) (S : WS) (R : Bool) (S1 : WS) (w : World) (hK : Wk B g S w) (h : syS S = (R, S1)) : Calls Tryz.prog 89 #[.pointer (some ⟨g, 0, none⟩)] w (OutS B g w R S1) := by
  have c := system_any B g S w hK
  rw [h] at c
  exact c
theorem literal_st (B g : Nat) (S : WS) (R : Bool) (S1 : WS) (w : World) (hK : Wk B g S w) (h : liS S = (R, S1)) : Calls Tryz.prog 87 #[.pointer (some ⟨g, 0, none⟩)] w (OutS B g w R S1) := by
  have c := literal_any B g S w hK
  rw [h] at c
  exact c

theorem drew_trans {w w' : World} (b : Below w.drew.heap.size w.drew w') : Below w.heap.size w w' := (below_drew w).trans b
theorem Clb.x {g : Nat} {c : Cl} {w : World} (h : Clb g c w) (j : Nat) {v : Value} (hv : (clC c)[j]? = some v) : w.cell? ⟨g, j, none⟩ = some v := by rw [cell_of_row w g j _ _ _ h, hv]
theorem Clb.y {g : Nat} {c : Cl} {w : World} (h : Clb g c w) (j : Nat) : w.frozen? ⟨g, j, none⟩ = false := frozen_of_row w g j _ _ h

theorem clb_three {g : Nat} {c d : Cl} {w : World} (h : Clb g c w) : Clb g d (((w.setCell ⟨g, 0, none⟩ (.int .i64 d.k)).setCell ⟨g, 1, none⟩ (.string d.nm)).setCell ⟨g, 2, none⟩ (.string d.va)) := by
  exact heap_setCell_same _ g 2 _ _ _ (heap_setCell_same _ g 1 _ _ _ (heap_setCell_same w g 0 _ _ _ h))
theorem below_three (g : Nat) (w : World) (a b c : Value) : Below g w (((w.setCell ⟨g, 0, none⟩ a).setCell ⟨g, 1, none⟩ b).setCell ⟨g, 2, none⟩ c) := ((below_set g 0 w a).trans (below_set g 1 _ b)).trans (below_set g 2 _ c)

set_option maxHeartbeats 1000000 in
theorem found_no (B g : Nat) (S : WS) (k : Int) (w : World) (hK : Wk B g S w) : Calls Tryz.prog 78 #[.pointer (some ⟨g, 0, none⟩), .int .i64 k, .bool false] w fun e w' => e = .returned (.tuple #[.agg (clC cl0), .bool false]) ∧ Below w.heap.size w w' := by
  clear hK
  go_enter Tryz.func78, Tryz.ntmps78
  go_wp2_with (first | (with_reducible show wpList Tryz.prog _ _ (Oper.mk _ (Op.alloc 40) _ _ _ none :: _) _ _; refine wpList_alC rfl rfl ?_; intro wz rz bz ez) | (with_reducible show wpList Tryz.prog _ _ (Oper.mk _ (Op.store 40 _ _) _ _ _ none :: _) _ _; refine wpList_stC rfl _ _ rfl w.heap.size cl0 cl0 (by simp [Act.eval, Act.put]) (by simp [Act.eval, Act.put, clC, cl0, ba]) rz ?_; intro w9 z9 g9 e9))
  exact clb_end rfl w.heap.size (cl0, false) _ rfl rfl rfl z9 rfl (belowG bz g9 (Nat.le_refl _) bz.size)

set_option maxHeartbeats 2000000 in
theorem found_yes (B g : Nat) (S : WS) (k : Int) (w : World) (hK : Wk B g S w) : Calls Tryz.prog 78 #[.pointer (some ⟨g, 0, none⟩), .int .i64 k, .bool true] w fun e w' => e = .returned (.tuple #[.agg (clC ⟨k, S.nm, S.va⟩), .bool true]) ∧ Below w.heap.size w w' := by
  have h1 := hK.wb.nm
  have h2 := hK.wb.va
  obtain ⟨ao, n, c, hA⟩ := hK
  have HA := hide hA
  have C1 := hide (fun wx => clone_any S.nm wx (by omega))
  have C2 := hide (fun wx => clone_any S.va wx (by omega))
  clear hA
  go_enter Tryz.func78, Tryz.ntmps78
  go_wp2_with (first | (with_reducible show wpList Tryz.prog _ _ (Oper.mk _ (Op.alloc 40) _ _ _ none :: _) _ _; refine wpList_alC rfl rfl ?_; intro wz rz bz ez))
  have HB := hide ((unhide HA).later bz)
  have u1 := (unhide HB).c1
  have u2 := (unhide HB).c2
  have KL := hide (fun (wx : World) (b : Below wz.heap.size wz wx) => ((unhide HB).later b))
  have RL := hide (fun (wx : World) (b : Below wz.heap.size wz wx) => (rz.later b))
  go_region_with (first | (go_at_call 101; (with_reducible refine (unhide C1 wz.drew).mono ?_); rintro e w3 ⟨rfl, b3⟩; have bb := drew_trans b3; have v1 := (unhide KL w3 bb).c1; have v2 := (unhide KL w3 bb).c2) | (go_at_call 101; (with_reducible refine (unhide C2 wz.drew).mono ?_); rintro e w3 ⟨rfl, b3⟩; have bb := drew_trans b3; have v1 := (unhide KL w3 bb).c1; have v2 := (unhide KL w3 bb).c2) | (go_at_call 101; (with_reducible refine (unhide C1 w3).mono ?_); rintro e w4 ⟨rfl, b4⟩; have bb4 := bb.trans (b4.mono bb.size); have RB := unhide RL w4 bb4; have x0 := RB.x 0 rfl; have x1 := RB.x 1 rfl; have x2 := RB.x 2 rfl; have y0 := RB.y 0; have y1 := RB.y 1; have y2 := RB.y 2) | (go_at_call 101; (with_reducible refine (unhide C2 w3).mono ?_); rintro e w4 ⟨rfl, b4⟩; have bb4 := bb.trans (b4.mono bb.size); have RB := unhide RL w4 bb4; have x0 := RB.x 0 rfl; have x1 := RB.x 1 rfl; have x2 := RB.x 2 rfl; have y0 := RB.y 0; have y1 := RB.y 1; have y2 := RB.y 2))
  all_goals go_wp2_with fail
  all_goals exact clb_end rfl w.heap.size ((⟨k, S.nm, S.va⟩ : Cl), true) _ rfl rfl rfl (clb_three (d := ⟨k, S.nm, S.va⟩) RB) rfl ((belT bz bb4).trans (below_three w.heap.size w4 _ _ _))

end Go.Proofs.YtddfbaaghjcbnaaGreatDoor
