/-
  What the document's own Of returns: the program's. It writes nothing that was there. Conditions: a text that may be; the type is a byte.
-/
import Derived.Test.YtgldbainhncneaaGreatDoorVrOp
import Derived.Test.YtgldbainhncneaaGreatDoorVrTx
import Derived.Test.YtgldbainhncneaaGreatDoorVaOf2
namespace Go.Proofs.YtgldbainhncneaaGreatDoor
open Go.RowKit
set_option linter.unusedVariables false
set_option linter.unusedSimpArgs false

set_option maxHeartbeats 1000000 in
set_option maxRecDepth 100000 in
theorem of_ref (s : ByteArray) (t : Int) (un : Bool) (w : World) (q0 : 0 ≤ t) (q1 : t < 256) (hs : s.size ≤ 1099511627776) :
    Calls Tryz.prog 15 #[.string s, .agg #[.int .u8 t, .bool un]] w fun e w' => e = .returned (.tuple #[.agg (vaC (ofV s t un).1), .int .i64 (ofV s t un).2]) ∧ Below w.heap.size w w' := by
  rw [← rof_eq]
  have P0 : Pz w t un (vaC va0) ((w.alloc (.cells #[.int .u8 t, .bool un] 23)).alloc (.cells (vaC va0) 32)) := Pz.new w t un (vaC va0)
  obtain ⟨w2, hw2⟩ : ∃ z, z = (w.alloc (.cells #[.int .u8 t, .bool un] 23)).alloc (.cells (vaC va0) 32) := ⟨_, rfl⟩
  rw [← hw2] at P0
  have cK := hide (kind_ref t un w2 q0 q1)
  have S0 := hide (vaC_size va0)
  have O0 := hide (vaC_one va0)
  have HW := hide (show (w.alloc (.cells #[.int .u8 t, .bool un] 23)).alloc (.cells #[.int .i64 0, .int .i64 0, .int .u64 0, .string ⟨#[]⟩, .bool false, .int .i64 0, .int .i64 0, .int .i64 0, .int .i64 0, .int .i64 0, .int .i64 0, .int .i64 0] 32) = w2 from hw2.symm)
  have PP := hide P0
  obtain ⟨t0, t1⟩ := P0.cells
  clear hw2 P0
  unfold rof
  cases hH : hasT (kdV t un)
  · rw [if_pos rfl]
    have bad : ∀ K : Int, hasT K = false → (K < 0) ∨ (K = 0) ∨ (K = 3) ∨ (K = 4) := by
      intro K hK
      unfold hasT at hK
      simp at hK
      omega
    have hq := bad _ hH
    generalize kdV t un = K at *
    clear q0 q1 hs hH bad
    rcases hq with hq | hq | hq | hq
    · have g0 : (K < 0) = True := by simpa using hq
      go_enter Tryz.func15, Tryz.ntmps15
      go_wp2_with (first | (go_at_call 26; rw [unhide HW]; (with_reducible refine (unhide cK).mono ?_); rintro e w3 ⟨rfl, b3⟩; have PP := hide ((unhide PP).later b3); clear t0 t1; obtain ⟨t0, t1⟩ := (unhide PP).cells; clear b3) | (with_reducible show wpList Tryz.prog _ _ (Oper.mk _ (Op.store 32 _ _) _ _ _ none :: _) _ _; refine wpList_stG rfl _ (.tmp 4) (.tmp 26) rfl (w.heap.size + 1) (vaC va0) (vaC va0) rfl rfl (unhide PP).rr (unhide S0) rfl (unhide O0) ?_; intro w8 r8 g8 s8; have P8 := hide ((unhide PP).set r8 g8); clear r8 g8 s8))
      refine bodyPost_ret (results_row_tmp1 rfl _ _ (w.heap.size + 1) _ rfl (run_loadVar_row _ (w.heap.size + 1) _ _ _ _ _ (unhide P8).rr Tryz.underlying32 rfl (unhide S0))) rfl ?_
      exact ⟨rfl, (unhide P8).bl⟩
    · subst hq
      go_enter Tryz.func15, Tryz.ntmps15
      go_wp2_with (first | (go_at_call 26; rw [unhide HW]; (with_reducible refine (unhide cK).mono ?_); rintro e w3 ⟨rfl, b3⟩; have PP := hide ((unhide PP).later b3); clear t0 t1; obtain ⟨t0, t1⟩ := (unhide PP).cells; clear b3) | (with_reducible show wpList Tryz.prog _ _ (Oper.mk _ (Op.store 32 _ _) _ _ _ none :: _) _ _; refine wpList_stG rfl _ (.tmp 4) (.tmp 26) rfl (w.heap.size + 1) (vaC va0) (vaC va0) rfl rfl (unhide PP).rr (unhide S0) rfl (unhide O0) ?_; intro w8 r8 g8 s8; have P8 := hide ((unhide PP).set r8 g8); clear r8 g8 s8))
      refine bodyPost_ret (results_row_tmp1 rfl _ _ (w.heap.size + 1) _ rfl (run_loadVar_row _ (w.heap.size + 1) _ _ _ _ _ (unhide P8).rr Tryz.underlying32 rfl (unhide S0))) rfl ?_
      exact ⟨rfl, (unhide P8).bl⟩
    · subst hq
      go_enter Tryz.func15, Tryz.ntmps15
      go_wp2_with (first | (go_at_call 26; rw [unhide HW]; (with_reducible refine (unhide cK).mono ?_); rintro e w3 ⟨rfl, b3⟩; have PP := hide ((unhide PP).later b3); clear t0 t1; obtain ⟨t0, t1⟩ := (unhide PP).cells; clear b3) | (with_reducible show wpList Tryz.prog _ _ (Oper.mk _ (Op.store 32 _ _) _ _ _ none :: _) _ _; refine wpList_stG rfl _ (.tmp 4) (.tmp 26) rfl (w.heap.size + 1) (vaC va0) (vaC va0) rfl rfl (unhide PP).rr (unhide S0) rfl (unhide O0) ?_; intro w8 r8 g8 s8; have P8 := hide ((unhide PP).set r8 g8); clear r8 g8 s8))
      refine bodyPost_ret (results_row_tmp1 rfl _ _ (w.heap.size + 1) _ rfl (run_loadVar_row _ (w.heap.size + 1) _ _ _ _ _ (unhide P8).rr Tryz.underlying32 rfl (unhide S0))) rfl ?_
      exact ⟨rfl, (unhide P8).bl⟩
    · subst hq
      go_enter Tryz.func15, Tryz.ntmps15
      go_wp2_with (first | (go_at_call 26; rw [unhide HW]; (with_reducible refine (unhide cK).mono ?_); rintro e w3 ⟨rfl, b3⟩; have PP := hide ((unhide PP).later b3); clear t0 t1; obtain ⟨t0, t1⟩ := (unhide PP).cells; clear b3) | (with_reducible show wpList Tryz.prog _ _ (Oper.mk _ (Op.store 32 _ _) _ _ _ none :: _) _ _; refine wpList_stG rfl _ (.tmp 4) (.tmp 26) rfl (w.heap.size + 1) (vaC va0) (vaC va0) rfl rfl (unhide PP).rr (unhide S0) rfl (unhide O0) ?_; intro w8 r8 g8 s8; have P8 := hide ((unhide PP).set r8 g8); clear r8 g8 s8))
      refine bodyPost_ret (results_row_tmp1 rfl _ _ (w.heap.size + 1) _ rfl (run_loadVar_row _ (w.heap.size + 1) _ _ _ _ _ (unhide P8).rr Tryz.underlying32 rfl (unhide S0))) rfl ?_
      exact ⟨rfl, (unhide P8).bl⟩
  · have hgd : ∀ K : Int, hasT K = true → kdV t un = K → ¬ K < 0 ∧ ¬ K = 0 ∧ ¬ K = 3 ∧ ¬ K = 4 := by
      intro K hK hk
      unfold hasT at hK
      simp at hK
      have := kd_cases t un
      omega
    have cG := hide (fun wx => guess_ref s t un wx q0 q1 hs hH)
    have hV := rgs_K s t un
    obtain ⟨g0, g1, g3, g4⟩ := hgd _ hH rfl
    have e0 : (kdV t un == 0) = false := by simpa using g1
    have e3 : (kdV t un == 3) = false := by simpa using g3
    have e4 : (kdV t un == 4) = false := by simpa using g4
    rw [if_neg (by decide)]
    generalize rgs s t un = V at *
    have SV := hide (vaC_size V)
    have OV := hide (vaC_one V)
    have cT := hide (fun wx => text_ref V t un wx q0 q1 hV)
    unfold txR at cT
    cases hM : tOk V t un
    · rw [hM, if_neg (by decide)] at cT
      simp only at cT
      rw [if_pos (Or.inl rfl)]
      generalize kdV t un = K at *
      clear q0 q1 hs hH hV hM hgd
      go_enter Tryz.func15, Tryz.ntmps15
      go_wp2_with (first | (go_at_call 26; rw [unhide HW]; (with_reducible refine (unhide cK).mono ?_); rintro e w3 ⟨rfl, b3⟩; have PP := hide ((unhide PP).later b3); clear t0 t1; obtain ⟨t0, t1⟩ := (unhide PP).cells; clear b3) | (go_at_call 32; (with_reducible refine (unhide cG _).mono ?_); rintro e w4 ⟨rfl, b4⟩; have PP := hide ((unhide PP).later b4); clear t0 t1; obtain ⟨t0, t1⟩ := (unhide PP).cells; clear b4) | (with_reducible show wpList Tryz.prog _ _ (Oper.mk _ (Op.store 32 _ _) _ _ _ none :: _) _ _; refine wpList_stN rfl _ (.tmp 7) (.tmp 29) rfl (vaC V) rfl rfl (unhide SV) rfl (unhide OV) ?_; intro w5 r5 b5 l5; have PP := hide ((unhide PP).later b5); clear t0 t1; obtain ⟨t0, t1⟩ := (unhide PP).cells; have RR := hide r5; clear b5 r5) | (with_reducible show wpList Tryz.prog _ _ (Oper.mk _ (Op.load 32 _) _ _ _ none :: _) _ _; refine wpList_load_row rfl _ (.tmp 7) rfl w4.heap.size rfl _ (vaC V) (0, 0) _ (unhide RR) Tryz.underlying32 rfl (unhide SV) ?_) | (go_at_call 33; (with_reducible refine (unhide cT _).mono ?_); rintro e w6 ⟨rfl, b6⟩; have RR := hide (vrow_later (unhide RR) b6); have PP := hide ((unhide PP).later b6); clear t0 t1; obtain ⟨t0, t1⟩ := (unhide PP).cells; clear b6) | (with_reducible show wpList Tryz.prog _ _ (Oper.mk _ (Op.store 32 _ _) _ _ _ none :: _) _ _; refine wpList_stG rfl _ (.tmp 4) (.tmp 43) rfl (w.heap.size + 1) (vaC va0) (vaC va0) rfl rfl (unhide PP).rr (unhide S0) rfl (unhide O0) ?_; intro w8 r8 g8 s8; have P8 := hide ((unhide PP).set r8 g8); clear r8 g8 s8))
      refine bodyPost_ret (results_row_tmp1 rfl _ _ (w.heap.size + 1) _ rfl (run_loadVar_row _ (w.heap.size + 1) _ _ _ _ _ (unhide P8).rr Tryz.underlying32 rfl (unhide S0))) rfl ?_
      exact ⟨rfl, (unhide P8).bl⟩
    · rw [hM, if_pos rfl] at cT
      simp only at cT
      by_cases hT : vaT V t = s.data.toList
      · have eT : tb (vaT V t) = s := by rw [hT]; rfl
        rw [if_neg (by intro h; rcases h with h | h; exact absurd h (by decide); exact h hT)]
        rw [eT] at cT
        generalize kdV t un = K at *
        clear q0 q1 hs hH hV hM hT eT hgd
        go_enter Tryz.func15, Tryz.ntmps15
        go_wp2_with (first | (go_at_call 26; rw [unhide HW]; (with_reducible refine (unhide cK).mono ?_); rintro e w3 ⟨rfl, b3⟩; have PP := hide ((unhide PP).later b3); clear t0 t1; obtain ⟨t0, t1⟩ := (unhide PP).cells; clear b3) | (go_at_call 32; (with_reducible refine (unhide cG _).mono ?_); rintro e w4 ⟨rfl, b4⟩; have PP := hide ((unhide PP).later b4); clear t0 t1; obtain ⟨t0, t1⟩ := (unhide PP).cells; clear b4) | (with_reducible show wpList Tryz.prog _ _ (Oper.mk _ (Op.store 32 _ _) _ _ _ none :: _) _ _; refine wpList_stN rfl _ (.tmp 7) (.tmp 29) rfl (vaC V) rfl rfl (unhide SV) rfl (unhide OV) ?_; intro w5 r5 b5 l5; have PP := hide ((unhide PP).later b5); clear t0 t1; obtain ⟨t0, t1⟩ := (unhide PP).cells; have RR := hide r5; clear b5 r5) | (with_reducible show wpList Tryz.prog _ _ (Oper.mk _ (Op.load 32 _) _ _ _ none :: _) _ _; refine wpList_load_row rfl _ (.tmp 7) rfl w4.heap.size rfl _ (vaC V) (0, 0) _ (unhide RR) Tryz.underlying32 rfl (unhide SV) ?_) | (go_at_call 33; (with_reducible refine (unhide cT _).mono ?_); rintro e w6 ⟨rfl, b6⟩; have RR := hide (vrow_later (unhide RR) b6); have PP := hide ((unhide PP).later b6); clear t0 t1; obtain ⟨t0, t1⟩ := (unhide PP).cells; clear b6) | (with_reducible show wpList Tryz.prog _ _ (Oper.mk _ (Op.store 32 _ _) _ _ _ none :: _) _ _; refine wpList_stG rfl _ (.tmp 4) (.tmp 44) rfl (w.heap.size + 1) (vaC V) (vaC va0) rfl rfl (unhide PP).rr (unhide SV) rfl (unhide OV) ?_; intro w8 r8 g8 s8; have P8 := hide ((unhide PP).set r8 g8); clear r8 g8 s8))
        refine bodyPost_ret (results_row_tmp1 rfl _ _ (w.heap.size + 1) _ rfl (run_loadVar_row _ (w.heap.size + 1) _ _ _ _ _ (unhide P8).rr Tryz.underlying32 rfl (unhide SV))) rfl ?_
        exact ⟨rfl, (unhide P8).bl⟩
      · have eT : tb (vaT V t) ≠ s := by
          intro h
          apply hT
          rw [← h]
          rfl
        rw [if_pos (Or.inr hT)]
        generalize kdV t un = K at *
        clear q0 q1 hs hH hV hM hT hgd
        generalize tb (vaT V t) = X at *
        have eX : (!X.toList == s.toList) = true := by simp only [Bool.not_eq_true', beq_eq_false_iff_ne, ne_eq]; exact fun h => eT (vba_inj h)
        have eY : (X.toList == s.toList) = false := by simp only [beq_eq_false_iff_ne, ne_eq]; exact fun h => eT (vba_inj h)
        go_enter Tryz.func15, Tryz.ntmps15
        go_wp2_with (first | (go_at_call 26; rw [unhide HW]; (with_reducible refine (unhide cK).mono ?_); rintro e w3 ⟨rfl, b3⟩; have PP := hide ((unhide PP).later b3); clear t0 t1; obtain ⟨t0, t1⟩ := (unhide PP).cells; clear b3) | (go_at_call 32; (with_reducible refine (unhide cG _).mono ?_); rintro e w4 ⟨rfl, b4⟩; have PP := hide ((unhide PP).later b4); clear t0 t1; obtain ⟨t0, t1⟩ := (unhide PP).cells; clear b4) | (with_reducible show wpList Tryz.prog _ _ (Oper.mk _ (Op.store 32 _ _) _ _ _ none :: _) _ _; refine wpList_stN rfl _ (.tmp 7) (.tmp 29) rfl (vaC V) rfl rfl (unhide SV) rfl (unhide OV) ?_; intro w5 r5 b5 l5; have PP := hide ((unhide PP).later b5); clear t0 t1; obtain ⟨t0, t1⟩ := (unhide PP).cells; have RR := hide r5; clear b5 r5) | (with_reducible show wpList Tryz.prog _ _ (Oper.mk _ (Op.load 32 _) _ _ _ none :: _) _ _; refine wpList_load_row rfl _ (.tmp 7) rfl w4.heap.size rfl _ (vaC V) (0, 0) _ (unhide RR) Tryz.underlying32 rfl (unhide SV) ?_) | (go_at_call 33; (with_reducible refine (unhide cT _).mono ?_); rintro e w6 ⟨rfl, b6⟩; have RR := hide (vrow_later (unhide RR) b6); have PP := hide ((unhide PP).later b6); clear t0 t1; obtain ⟨t0, t1⟩ := (unhide PP).cells; clear b6) | (with_reducible show wpList Tryz.prog _ _ (Oper.mk _ (Op.store 32 _ _) _ _ _ none :: _) _ _; refine wpList_stG rfl _ (.tmp 4) (.tmp 43) rfl (w.heap.size + 1) (vaC va0) (vaC va0) rfl rfl (unhide PP).rr (unhide S0) rfl (unhide O0) ?_; intro w8 r8 g8 s8; have P8 := hide ((unhide PP).set r8 g8); clear r8 g8 s8))
        refine bodyPost_ret (results_row_tmp1 rfl _ _ (w.heap.size + 1) _ rfl (run_loadVar_row _ (w.heap.size + 1) _ _ _ _ _ (unhide P8).rr Tryz.underlying32 rfl (unhide S0))) rfl ?_
        exact ⟨rfl, (unhide P8).bl⟩


end Go.Proofs.YtgldbainhncneaaGreatDoor
