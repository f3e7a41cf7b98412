/-
  What the document's own Read of values returns: the program's. It writes nothing that was there. Conditions: the slice can be read; at most 2 to the 40 bytes; the type is a byte.
-/
import Derived.Test.YtgldbainhncneaaGreatDoorMRq
import Derived.Test.YtgldbainhncneaaGreatDoorVaOf1
import Derived.Test.YtgldbainhncneaaGreatDoorVaSt
namespace Go.Proofs.YtgldbainhncneaaGreatDoor
open Go.RowKit
set_option linter.unusedVariables false
set_option linter.unusedSimpArgs false

/-- The blocks of Read: the type's and the answer's, the fields' (g), the value's under way (G). -/
structure Rz (w0 : World) (t : Int) (un : Bool) (g G : Nat) (C : Array Value) (s : FS) (w : World) : Prop where
  p : Pz w0 t un (vaC va0) w
  d : Dx g w s
  v : w.heap[G]? = some (.cells C 32 (0, 0))
  lt : w0.heap.size + 1 < g
  gt : g < G
section
variable {w0 : World} {t : Int} {un : Bool} {g G : Nat} {C D : Array Value} {s s' : FS} {w w' : World}
theorem Rz.later (h : Rz w0 t un g G C s w) (b : Below w.heap.size w w') : Rz w0 t un g G C s w' := ⟨h.p.later b, h.d.later b, vrow_later h.v b, h.lt, h.gt⟩
theorem Rz.call (h : Rz w0 t un g G C s w) (q : OutY g w s' w') : Rz w0 t un g G C s' w' :=
  ⟨h.p.gb q.2 h.lt, q.1, (q.2.block _ (Array.getElem?_eq_some_iff.1 h.v).1 (by have := h.gt; omega)).trans h.v, h.lt, h.gt⟩
theorem Rz.set (h : Rz w0 t un g G C s w) (i : Nat) (v : Value) (hc : C.setIfInBounds i v = D) : Rz w0 t un g G D s (w.setCell ⟨G, i, none⟩ v) :=
  ⟨h.p.gb set_one_gb (by have := h.lt; have := h.gt; omega), dx_own h.d h.gt i v, by rw [← hc]; exact heap_setCell_same _ _ i _ _ _ h.v, h.lt, h.gt⟩
theorem Rz.fr (h : Rz w0 t un g G C s w) (i : Nat) : w.frozen? ⟨G, i, none⟩ = false := frozen_of_row w _ i _ _ h.v
end
theorem Rz.new {w0 w : World} {t : Int} {un : Bool} {bo : Option Addr} {bn bc : Nat} {b : List Int} {C : Array Value} {w5 : World} (h : Pz w0 t un (vaC va0) w) (hb : Bs w bo bn bc b) (hn : bn ≤ 1099511627776)
    (hr : w5.heap[(w.alloc (.cells #[.slice bo bn bc, .int .i64 0] 55)).heap.size]? = some (.cells C 32 (0, 0))) (hB : Below (w.alloc (.cells #[.slice bo bn bc, .int .i64 0] 55)).heap.size (w.alloc (.cells #[.slice bo bn bc, .int .i64 0] 55)) w5) : Rz w0 t un w.heap.size (w.heap.size + 1) C ⟨b, 0⟩ w5 := by
  have b1 := below_alloc w (.cells #[.slice bo bn bc, .int .i64 0] 55)
  have hs : (w.alloc (.cells #[.slice bo bn bc, .int .i64 0] 55)).heap.size = w.heap.size + 1 := by simp
  rw [hs] at hr
  exact ⟨(h.later b1).later hB, Dx.later ⟨⟨_, _, _, Dl.new hb⟩, by show b.length ≤ _; rw [hb.len]; exact hn⟩ hB, hr, (Array.getElem?_eq_some_iff.1 h.rr).1, Nat.lt_succ_self _⟩
theorem row_sets12 {w : World} {g : Nat} {T : TypeId} {z0 z1 z2 z3 z4 z5 z6 z7 z8 z9 z10 z11 v0 v1 v2 v3 v4 v5 v6 v7 v8 v9 v10 v11 : Value} (h : w.heap[g]? = some (.cells #[z0, z1, z2, z3, z4, z5, z6, z7, z8, z9, z10, z11] T (0, 0))) : ((((((((((((w.setCell ⟨g, 0, none⟩ v0).setCell ⟨g, 1, none⟩ v1).setCell ⟨g, 2, none⟩ v2).setCell ⟨g, 3, none⟩ v3).setCell ⟨g, 4, none⟩ v4).setCell ⟨g, 5, none⟩ v5).setCell ⟨g, 6, none⟩ v6).setCell ⟨g, 7, none⟩ v7).setCell ⟨g, 8, none⟩ v8).setCell ⟨g, 9, none⟩ v9).setCell ⟨g, 10, none⟩ v10).setCell ⟨g, 11, none⟩ v11).heap[g]? = some (.cells #[v0, v1, v2, v3, v4, v5, v6, v7, v8, v9, v10, v11] T (0, 0)) := by
  have h0 : (w.setCell ⟨g, 0, none⟩ v0).heap[g]? = some (.cells #[v0, z1, z2, z3, z4, z5, z6, z7, z8, z9, z10, z11] T (0, 0)) := heap_setCell_same _ g 0 _ _ _ h
  have h1 : ((w.setCell ⟨g, 0, none⟩ v0).setCell ⟨g, 1, none⟩ v1).heap[g]? = some (.cells #[v0, v1, z2, z3, z4, z5, z6, z7, z8, z9, z10, z11] T (0, 0)) := heap_setCell_same _ g 1 _ _ _ h0
  have h2 : (((w.setCell ⟨g, 0, none⟩ v0).setCell ⟨g, 1, none⟩ v1).setCell ⟨g, 2, none⟩ v2).heap[g]? = some (.cells #[v0, v1, v2, z3, z4, z5, z6, z7, z8, z9, z10, z11] T (0, 0)) := heap_setCell_same _ g 2 _ _ _ h1
  have h3 : ((((w.setCell ⟨g, 0, none⟩ v0).setCell ⟨g, 1, none⟩ v1).setCell ⟨g, 2, none⟩ v2).setCell ⟨g, 3, none⟩ v3).heap[g]? = some (.cells #[v0, v1, v2, v3, z4, z5, z6, z7, z8, z9, z10, z11] T (0, 0)) := heap_setCell_same _ g 3 _ _ _ h2
  have h4 : (((((w.setCell ⟨g, 0, none⟩ v0).setCell ⟨g, 1, none⟩ v1).setCell ⟨g, 2, none⟩ v2).setCell ⟨g, 3, none⟩ v3).setCell ⟨g, 4, none⟩ v4).heap[g]? = some (.cells #[v0, v1, v2, v3, v4, z5, z6, z7, z8, z9, z10, z11] T (0, 0)) := heap_setCell_same _ g 4 _ _ _ h3
  have h5 : ((((((w.setCell ⟨g, 0, none⟩ v0).setCell ⟨g, 1, none⟩ v1).setCell ⟨g, 2, none⟩ v2).setCell ⟨g, 3, none⟩ v3).setCell ⟨g, 4, none⟩ v4).setCell ⟨g, 5, none⟩ v5).heap[g]? = some (.cells #[v0, v1, v2, v3, v4, v5, z6, z7, z8, z9, z10, z11] T (0, 0)) := heap_setCell_same _ g 5 _ _ _ h4
  have h6 : (((((((w.setCell ⟨g, 0, none⟩ v0).setCell ⟨g, 1, none⟩ v1).setCell ⟨g, 2, none⟩ v2).setCell ⟨g, 3, none⟩ v3).setCell ⟨g, 4, none⟩ v4).setCell ⟨g, 5, none⟩ v5).setCell ⟨g, 6, none⟩ v6).heap[g]? = some (.cells #[v0, v1, v2, v3, v4, v5, v6, z7, z8, z9, z10, z11] T (0, 0)) := heap_setCell_same _ g 6 _ _ _ h5
  have h7 : ((((((((w.setCell ⟨g, 0, none⟩ v0).setCell ⟨g, 1, none⟩ v1).setCell ⟨g, 2, none⟩ v2).setCell ⟨g, 3, none⟩ v3).setCell ⟨g, 4, none⟩ v4).setCell ⟨g, 5, none⟩ v5).setCell ⟨g, 6, none⟩ v6).setCell ⟨g, 7, none⟩ v7).heap[g]? = some (.cells #[v0, v1, v2, v3, v4, v5, v6, v7, z8, z9, z10, z11] T (0, 0)) := heap_setCell_same _ g 7 _ _ _ h6
  have h8 : (((((((((w.setCell ⟨g, 0, none⟩ v0).setCell ⟨g, 1, none⟩ v1).setCell ⟨g, 2, none⟩ v2).setCell ⟨g, 3, none⟩ v3).setCell ⟨g, 4, none⟩ v4).setCell ⟨g, 5, none⟩ v5).setCell ⟨g, 6, none⟩ v6).setCell ⟨g, 7, none⟩ v7).setCell ⟨g, 8, none⟩ v8).heap[g]? = some (.cells #[v0, v1, v2, v3, v4, v5, v6, v7, v8, z9, z10, z11] T (0, 0)) := heap_setCell_same _ g 8 _ _ _ h7
  have h9 : ((((((((((w.setCell ⟨g, 0, none⟩ v0).setCell ⟨g, 1, none⟩ v1).setCell ⟨g, 2, none⟩ v2).setCell ⟨g, 3, none⟩ v3).setCell ⟨g, 4, none⟩ v4).setCell ⟨g, 5, none⟩ v5).setCell ⟨g, 6, none⟩ v6).setCell ⟨g, 7, none⟩ v7).setCell ⟨g, 8, none⟩ v8).setCell ⟨g, 9, none⟩ v9).heap[g]? = some (.cells #[v0, v1, v2, v3, v4, v5, v6, v7, v8, v9, z10, z11] T (0, 0)) := heap_setCell_same _ g 9 _ _ _ h8
  have h10 : (((((((((((w.setCell ⟨g, 0, none⟩ v0).setCell ⟨g, 1, none⟩ v1).setCell ⟨g, 2, none⟩ v2).setCell ⟨g, 3, none⟩ v3).setCell ⟨g, 4, none⟩ v4).setCell ⟨g, 5, none⟩ v5).setCell ⟨g, 6, none⟩ v6).setCell ⟨g, 7, none⟩ v7).setCell ⟨g, 8, none⟩ v8).setCell ⟨g, 9, none⟩ v9).setCell ⟨g, 10, none⟩ v10).heap[g]? = some (.cells #[v0, v1, v2, v3, v4, v5, v6, v7, v8, v9, v10, z11] T (0, 0)) := heap_setCell_same _ g 10 _ _ _ h9
  have h11 : ((((((((((((w.setCell ⟨g, 0, none⟩ v0).setCell ⟨g, 1, none⟩ v1).setCell ⟨g, 2, none⟩ v2).setCell ⟨g, 3, none⟩ v3).setCell ⟨g, 4, none⟩ v4).setCell ⟨g, 5, none⟩ v5).setCell ⟨g, 6, none⟩ v6).setCell ⟨g, 7, none⟩ v7).setCell ⟨g, 8, none⟩ v8).setCell ⟨g, 9, none⟩ v9).setCell ⟨g, 10, none⟩ v10).setCell ⟨g, 11, none⟩ v11).heap[g]? = some (.cells #[v0, v1, v2, v3, v4, v5, v6, v7, v8, v9, v10, v11] T (0, 0)) := heap_setCell_same _ g 11 _ _ _ h10
  exact h11
theorem gb_sets12 {w : World} {g : Nat} {v0 v1 v2 v3 v4 v5 v6 v7 v8 v9 v10 v11 : Value} : Gb g w ((((((((((((w.setCell ⟨g, 0, none⟩ v0).setCell ⟨g, 1, none⟩ v1).setCell ⟨g, 2, none⟩ v2).setCell ⟨g, 3, none⟩ v3).setCell ⟨g, 4, none⟩ v4).setCell ⟨g, 5, none⟩ v5).setCell ⟨g, 6, none⟩ v6).setCell ⟨g, 7, none⟩ v7).setCell ⟨g, 8, none⟩ v8).setCell ⟨g, 9, none⟩ v9).setCell ⟨g, 10, none⟩ v10).setCell ⟨g, 11, none⟩ v11) := (((((((((((((Gb.refl g w).set 0 v0).set 1 v1).set 2 v2).set 3 v3).set 4 v4).set 5 v5).set 6 v6).set 7 v7).set 8 v8).set 9 v9).set 10 v10).set 11 v11)
theorem sgn_1 {x : Int} (h0 : 0 ≤ x) (h1 : x < 256) : wrap64 (x * 72057594037927936) / 72057594037927936 = sgn x 1 := by
  unfold sgn
  rw [if_pos rfl]
  unfold wrap64
  omega
theorem sgn_2 {x : Int} (h0 : 0 ≤ x) (h1 : x < 65536) : wrap64 (x * 281474976710656) / 281474976710656 = sgn x 2 := by
  unfold sgn
  rw [if_neg (by decide), if_pos rfl]
  unfold wrap64
  omega
theorem sgn_4 {x : Int} (h0 : 0 ≤ x) (h1 : x < 4294967296) : wrap64 (x * 4294967296) / 4294967296 = sgn x 4 := by
  unfold sgn
  rw [if_neg (by decide), if_neg (by decide), if_pos rfl]
  unfold wrap64
  omega
theorem sgn_8 {x : Int} (h0 : 0 ≤ x) (h1 : x < 18446744073709551616) : wrap64 x = sgn x 8 := by
  unfold sgn
  rw [if_neg (by decide), if_neg (by decide), if_neg (by decide)]
  unfold wrap64
  omega

set_option maxHeartbeats 4000000 in
set_option maxRecDepth 100000 in
theorem vread_ref (bo : Option Addr) (bn bc : Nat) (b : List Int) (t : Int) (un : Bool) (w : World) (q0 : 0 ≤ t) (q1 : t < 256) (hb : Bs w bo bn bc b) (hn : bn ≤ 1099511627776) :
    Calls Tryz.prog 14 #[.slice bo bn bc, .agg #[.int .u8 t, .bool un]] w fun e w' => e = .returned (.tuple #[.agg (vaC (rdV b t un).1), .int .i64 (rdV b t un).2.1, .int .i64 (rdV b t un).2.2]) ∧ Below w.heap.size w w' := by
  have P0 := Pz.new w t un (vaC va0)
  obtain ⟨w2, hw2⟩ : ∃ z, z = (w.alloc (.cells #[.int .u8 t, .bool un] 23)).alloc (.cells (vaC va0) 32) := ⟨_, rfl⟩
  rw [← hw2] at P0
  have cK := hide (kind_ref t un w2 q0 q1)
  have S0 := hide (vaC_size va0)
  have O0 := hide (vaC_one va0)
  have HW := hide (show (w.alloc (.cells #[.int .u8 t, .bool un] 23)).alloc (.cells #[.int .i64 0, .int .i64 0, .int .u64 0, .string ⟨#[]⟩, .bool false, .int .i64 0, .int .i64 0, .int .i64 0, .int .i64 0, .int .i64 0, .int .i64 0, .int .i64 0] 32) = w2 from hw2.symm)
  have PP := hide P0
  have HB := hide (hb.later P0.bl)
  have HB2 := hide (fun w3 (b3 : Below w2.heap.size w2 w3) => b3)
  have hbl := hb.len
  have hbm := hb.max
  have hbe := hb.le
  have hby := hb.byt
  obtain ⟨t0, t1⟩ := P0.cells
  clear hw2 P0 hb
  by_cases hk : kdV t un = -1
  · have e : rdV b t un = (va0, 0, 2) := by unfold rdV; rw [if_pos hk]
    rw [e]
    rw [hk] at cK
    clear e hk q0 q1 hby
    go_enter Tryz.func14, Tryz.ntmps14
    go_wp2_with (first | (go_at_call 26; rw [unhide HW]; (with_reducible refine (unhide cK).mono ?_); rintro e w3 ⟨rfl, b3⟩; have PP := hide ((unhide PP).later b3); clear t0 t1; obtain ⟨t0, t1⟩ := (unhide PP).cells; have HB3 := hide ((unhide HB).later (unhide HB2 _ b3)); clear b3) | (with_reducible show wpList Tryz.prog _ _ (Oper.mk _ (Op.store 32 _ _) _ _ _ none :: _) _ _; refine wpList_stG rfl _ (.tmp 4) (.tmp 16) rfl (w.heap.size + 1) (vaC va0) (vaC va0) rfl rfl (unhide PP).rr (unhide S0) rfl (unhide O0) ?_; intro w8 r8 g8 s8; have P8 := hide ((unhide PP).set r8 g8); clear r8 g8 s8))
    refine bodyPost_ret (results_row_tmp2 rfl _ _ (w.heap.size + 1) _ rfl (run_loadVar_row _ (w.heap.size + 1) _ _ _ _ _ (unhide P8).rr Tryz.underlying32 rfl (unhide S0))) rfl ?_
    exact ⟨rfl, (unhide P8).bl⟩
  have HR := hide (rr_eq hby hk)
  have hkc := kd_cases t un
  have HK := hide (show kdV t un = kdV t un from rfl)
  have cS := hide (fun wx => vsize_ref t wx)
  obtain ⟨Z, hZ⟩ : ∃ z, z = szV t := ⟨_, rfl⟩
  rw [← hZ] at cS
  obtain ⟨SR, hSR⟩ : ∃ z, z = (rrV b t un).2 := ⟨_, rfl⟩
  obtain ⟨VR, hVR⟩ : ∃ z, z = (rrV b t un).1 := ⟨_, rfl⟩
  have hRR := hide (show rrV b t un = (VR, SR) by rw [hVR, hSR])
  rw [← hSR, ← hVR] at HR
  clear hSR hVR
  obtain ⟨K, hK⟩ : ∃ z, z = kdV t un := ⟨_, rfl⟩
  rw [← hK] at cK hk hkc
  have gK : ¬ K < 0 := by omega
  have SK := hide (show (Tryz.prog.info? 32).map (·.size) = some (#[.int .i64 K, .int .i64 0, .int .u64 0, .string ⟨#[]⟩, .bool false, .int .i64 0, .int .i64 0, .int .i64 0, .int .i64 0, .int .i64 0, .int .i64 0, .int .i64 0] : Array Value).size from vaC_size ⟨K, 0, 0, ⟨#[]⟩, wh0⟩)
  have OK := hide (show (#[.int .i64 K, .int .i64 0, .int .u64 0, .string ⟨#[]⟩, .bool false, .int .i64 0, .int .i64 0, .int .i64 0, .int .i64 0, .int .i64 0, .int .i64 0, .int .i64 0] : Array Value).all (·.oneCell') = true from vaC_one ⟨K, 0, 0, ⟨#[]⟩, wh0⟩)
  have HKK := hide hK
  have HZ := hide hZ
  clear hK hZ HK
  go_enter Tryz.func14, Tryz.ntmps14
  go_upto_region 6 with (first | (go_at_call 26; rw [unhide HW]; (with_reducible refine (unhide cK).mono ?_); rintro e w3 ⟨rfl, b3⟩; have PP := hide ((unhide PP).later b3); clear t0 t1; obtain ⟨t0, t1⟩ := (unhide PP).cells; have HB3 := hide ((unhide HB).later (unhide HB2 _ b3)); clear b3) | (with_reducible show wpList Tryz.prog _ _ (Oper.mk _ (Op.store 32 _ _) _ _ _ none :: _) _ _; refine wpList_stN rfl _ (.tmp 9) (.tmp 21) rfl #[.int .i64 K, .int .i64 0, .int .u64 0, .string ⟨#[]⟩, .bool false, .int .i64 0, .int .i64 0, .int .i64 0, .int .i64 0, .int .i64 0, .int .i64 0, .int .i64 0] (by simp [Act.eval, Act.put]) (by simp [Act.eval, Act.put]) (unhide SK) rfl (unhide OK) ?_; intro w5 r5 b5 l5; have R5 := hide (Rz.new (unhide PP) (unhide HB3) hn r5 b5); clear t0 t1; obtain ⟨t0, t1⟩ := (unhide R5).p.cells; clear b5 r5 l5))
  simp only [Act.put, List.setIfInBounds_toArray, List.set_cons_zero, List.set_cons_succ]
  go_cut [10] (fun n wx => n = .int .i64 Z ∧ wx = w5)
  case first =>
    go_wp2_with (go_at_call 27; (with_reducible refine same_world (unhide cS _) ?_))
    go_meet
    exact ⟨rfl, rfl⟩
  obtain ⟨rfl, rfl⟩ := hcut
  go_step
  go_step

  go_cut [] (fun wx => Rz w t un w3.heap.size (w3.heap.size + 1) (vaC VR) SR wx)
  case first =>
    have hv := unhide hRR
    unfold rrV at hv
    clear hRR HR cK cS SK OK S0 O0 HB2 HW HB hby
    rcases hkc with rfl | rfl | rfl | rfl | rfl | rfl | rfl | rfl | rfl
    · exact absurd rfl hk
    · have hk1 : kdV t un = 0 := (unhide HKK).symm
      rw [if_neg (by omega), if_neg (by omega), if_neg (by omega), if_neg (by omega)] at hv
      injection hv with h1 h2
      have HV := hide (show vaC VR = #[.int .i64 0, .int .i64 0, .int .u64 0, .string ⟨#[]⟩, .bool false, .int .i64 0, .int .i64 0, .int .i64 0, .int .i64 0, .int .i64 0, .int .i64 0, .int .i64 0] by rw [← h1]; rfl)
      have R7 := R5
      rw [h2] at R7
      clear h1 h2 R5 HZ HKK hk1 hk
      go_wp2_with fail
      go_meet
      rw [unhide HV]
      exact unhide R7
    · have hk1 : kdV t un = 1 := (unhide HKK).symm
      have z2 := (sz_same (t := t) (un := un) (Or.inl hk1))
      rw [if_pos hk1, ← unhide HZ] at hv
      rw [← z2.1, ← unhide HZ] at z2
      have z3 := z2.2
      clear z2 HZ HKK hk1 hk
      rcases z3 with rfl | rfl | rfl | rfl
      · injection hv with h1 h2
        go_wp2_with fail
        refine (fixed_dx _ _ _ 1 1 256 rfl (by omega) (by omega) (by decide) (unhide R5).d).mono ?_
        rintro e w6 ⟨⟨rfl, a6, c6⟩, o6⟩
        have R6c := (unhide R5).call o6
        have h1 : (⟨1, sgn (fxA ⟨b, 0⟩ 1) 1, 0, ⟨#[]⟩, wh0⟩ : Va) = VR := h1
        have h2 : fxS ⟨b, 0⟩ 1 = SR := h2
        rw [h2] at R6c
        generalize fxA ⟨b, 0⟩ 1 = x at *
        have hS := sgn_1 a6 c6
        generalize sgn x 1 = X at *
        have HS := hide hS
        clear hS
        have fz := R6c.fr 1
        have kz := vrow_cell R6c.v (j := 1) (v := .int .i64 0) rfl
        have R7 := hide (R6c.set 1 (.int .i64 X) (D := #[.int .i64 1, .int .i64 X, .int .u64 0, .string ⟨#[]⟩, .bool false, .int .i64 0, .int .i64 0, .int .i64 0, .int .i64 0, .int .i64 0, .int .i64 0, .int .i64 0]) rfl)
        have HV := hide (show vaC VR = #[.int .i64 1, .int .i64 X, .int .u64 0, .string ⟨#[]⟩, .bool false, .int .i64 0, .int .i64 0, .int .i64 0, .int .i64 0, .int .i64 0, .int .i64 0, .int .i64 0] by rw [← h1]; rfl)
        clear R6c o6 R5 h1 h2
        go_wp2_with fail
        go_meet
        rw [unhide HV]
        rw [unhide HS]
        exact unhide R7
      · injection hv with h1 h2
        go_wp2_with fail
        refine (fixed_dx _ _ _ 2 2 65536 rfl (by omega) (by omega) (by decide) (unhide R5).d).mono ?_
        rintro e w6 ⟨⟨rfl, a6, c6⟩, o6⟩
        have R6c := (unhide R5).call o6
        have h1 : (⟨1, sgn (fxA ⟨b, 0⟩ 2) 2, 0, ⟨#[]⟩, wh0⟩ : Va) = VR := h1
        have h2 : fxS ⟨b, 0⟩ 2 = SR := h2
        rw [h2] at R6c
        generalize fxA ⟨b, 0⟩ 2 = x at *
        have hS := sgn_2 a6 c6
        generalize sgn x 2 = X at *
        have HS := hide hS
        clear hS
        have fz := R6c.fr 1
        have kz := vrow_cell R6c.v (j := 1) (v := .int .i64 0) rfl
        have R7 := hide (R6c.set 1 (.int .i64 X) (D := #[.int .i64 1, .int .i64 X, .int .u64 0, .string ⟨#[]⟩, .bool false, .int .i64 0, .int .i64 0, .int .i64 0, .int .i64 0, .int .i64 0, .int .i64 0, .int .i64 0]) rfl)
        have HV := hide (show vaC VR = #[.int .i64 1, .int .i64 X, .int .u64 0, .string ⟨#[]⟩, .bool false, .int .i64 0, .int .i64 0, .int .i64 0, .int .i64 0, .int .i64 0, .int .i64 0, .int .i64 0] by rw [← h1]; rfl)
        clear R6c o6 R5 h1 h2
        go_wp2_with fail
        go_meet
        rw [unhide HV]
        rw [unhide HS]
        exact unhide R7
      · injection hv with h1 h2
        go_wp2_with fail
        refine (fixed_dx _ _ _ 4 4 4294967296 rfl (by omega) (by omega) (by decide) (unhide R5).d).mono ?_
        rintro e w6 ⟨⟨rfl, a6, c6⟩, o6⟩
        have R6c := (unhide R5).call o6
        have h1 : (⟨1, sgn (fxA ⟨b, 0⟩ 4) 4, 0, ⟨#[]⟩, wh0⟩ : Va) = VR := h1
        have h2 : fxS ⟨b, 0⟩ 4 = SR := h2
        rw [h2] at R6c
        generalize fxA ⟨b, 0⟩ 4 = x at *
        have hS := sgn_4 a6 c6
        generalize sgn x 4 = X at *
        have HS := hide hS
        clear hS
        have fz := R6c.fr 1
        have kz := vrow_cell R6c.v (j := 1) (v := .int .i64 0) rfl
        have R7 := hide (R6c.set 1 (.int .i64 X) (D := #[.int .i64 1, .int .i64 X, .int .u64 0, .string ⟨#[]⟩, .bool false, .int .i64 0, .int .i64 0, .int .i64 0, .int .i64 0, .int .i64 0, .int .i64 0, .int .i64 0]) rfl)
        have HV := hide (show vaC VR = #[.int .i64 1, .int .i64 X, .int .u64 0, .string ⟨#[]⟩, .bool false, .int .i64 0, .int .i64 0, .int .i64 0, .int .i64 0, .int .i64 0, .int .i64 0, .int .i64 0] by rw [← h1]; rfl)
        clear R6c o6 R5 h1 h2
        go_wp2_with fail
        go_meet
        rw [unhide HV]
        rw [unhide HS]
        exact unhide R7
      · injection hv with h1 h2
        go_wp2_with fail
        refine (fixed_dx _ _ _ 8 8 18446744073709551616 rfl (by omega) (by omega) (by decide) (unhide R5).d).mono ?_
        rintro e w6 ⟨⟨rfl, a6, c6⟩, o6⟩
        have R6c := (unhide R5).call o6
        have h1 : (⟨1, sgn (fxA ⟨b, 0⟩ 8) 8, 0, ⟨#[]⟩, wh0⟩ : Va) = VR := h1
        have h2 : fxS ⟨b, 0⟩ 8 = SR := h2
        rw [h2] at R6c
        generalize fxA ⟨b, 0⟩ 8 = x at *
        have hS := sgn_8 a6 c6
        generalize sgn x 8 = X at *
        have HS := hide hS
        clear hS
        have fz := R6c.fr 1
        have kz := vrow_cell R6c.v (j := 1) (v := .int .i64 0) rfl
        have R7 := hide (R6c.set 1 (.int .i64 X) (D := #[.int .i64 1, .int .i64 X, .int .u64 0, .string ⟨#[]⟩, .bool false, .int .i64 0, .int .i64 0, .int .i64 0, .int .i64 0, .int .i64 0, .int .i64 0, .int .i64 0]) rfl)
        have HV := hide (show vaC VR = #[.int .i64 1, .int .i64 X, .int .u64 0, .string ⟨#[]⟩, .bool false, .int .i64 0, .int .i64 0, .int .i64 0, .int .i64 0, .int .i64 0, .int .i64 0, .int .i64 0] by rw [← h1]; rfl)
        clear R6c o6 R5 h1 h2
        go_wp2_with fail
        go_meet
        rw [unhide HV]
        rw [unhide HS]
        exact unhide R7
    · have hk1 : kdV t un = 2 := (unhide HKK).symm
      have z2 := (sz_same (t := t) (un := un) (by omega))
      rw [if_neg (by omega), if_pos (by omega), ← unhide HZ, hk1] at hv
      rw [← z2.1, ← unhide HZ] at z2
      have z3 := z2.2
      injection hv with h1 h2
      have z4 : Z = (Z.toNat : Int) := by omega
      have z5 : 1 ≤ Z.toNat ∧ Z.toNat ≤ 8 := by omega
      clear z2 HZ HKK hk1 hk z3
      generalize Z.toNat = n at *
      subst z4
      go_wp2_with fail
      refine (fixed_dx _ _ _ n n _ rfl z5.1 z5.2 rfl (unhide R5).d).mono ?_
      rintro e w6 ⟨⟨rfl, a6, c6⟩, o6⟩
      have R6c := (unhide R5).call o6
      rw [h2] at R6c
      generalize fxA ⟨b, 0⟩ n = x at *
      have fz := R6c.fr 2
      have kz := vrow_cell R6c.v (j := 2) (v := .int .u64 0) rfl
      have R7 := hide (R6c.set 2 (.int .u64 x) (D := #[.int .i64 2, .int .i64 0, .int .u64 x, .string ⟨#[]⟩, .bool false, .int .i64 0, .int .i64 0, .int .i64 0, .int .i64 0, .int .i64 0, .int .i64 0, .int .i64 0]) rfl)
      have HV := hide (show vaC VR = #[.int .i64 2, .int .i64 0, .int .u64 x, .string ⟨#[]⟩, .bool false, .int .i64 0, .int .i64 0, .int .i64 0, .int .i64 0, .int .i64 0, .int .i64 0, .int .i64 0] by rw [← h1]; rfl)
      clear R6c o6 R5 h1 h2 a6 c6
      go_wp2_with fail
      go_meet
      rw [unhide HV]
      exact unhide R7
    · have hk1 : kdV t un = 3 := (unhide HKK).symm
      have z2 := (sz_same (t := t) (un := un) (by omega))
      rw [if_neg (by omega), if_pos (by omega), ← unhide HZ, hk1] at hv
      rw [← z2.1, ← unhide HZ] at z2
      have z3 := z2.2
      injection hv with h1 h2
      have z4 : Z = (Z.toNat : Int) := by omega
      have z5 : 1 ≤ Z.toNat ∧ Z.toNat ≤ 8 := by omega
      clear z2 HZ HKK hk1 hk z3
      generalize Z.toNat = n at *
      subst z4
      go_wp2_with fail
      refine (fixed_dx _ _ _ n n _ rfl z5.1 z5.2 rfl (unhide R5).d).mono ?_
      rintro e w6 ⟨⟨rfl, a6, c6⟩, o6⟩
      have R6c := (unhide R5).call o6
      rw [h2] at R6c
      generalize fxA ⟨b, 0⟩ n = x at *
      have fz := R6c.fr 2
      have kz := vrow_cell R6c.v (j := 2) (v := .int .u64 0) rfl
      have R7 := hide (R6c.set 2 (.int .u64 x) (D := #[.int .i64 3, .int .i64 0, .int .u64 x, .string ⟨#[]⟩, .bool false, .int .i64 0, .int .i64 0, .int .i64 0, .int .i64 0, .int .i64 0, .int .i64 0, .int .i64 0]) rfl)
      have HV := hide (show vaC VR = #[.int .i64 3, .int .i64 0, .int .u64 x, .string ⟨#[]⟩, .bool false, .int .i64 0, .int .i64 0, .int .i64 0, .int .i64 0, .int .i64 0, .int .i64 0, .int .i64 0] by rw [← h1]; rfl)
      clear R6c o6 R5 h1 h2 a6 c6
      go_wp2_with fail
      go_meet
      rw [unhide HV]
      exact unhide R7
    · have hk1 : kdV t un = 4 := (unhide HKK).symm
      have z2 := (sz_same (t := t) (un := un) (by omega))
      rw [if_neg (by omega), if_pos (by omega), ← unhide HZ, hk1] at hv
      rw [← z2.1, ← unhide HZ] at z2
      have z3 := z2.2
      injection hv with h1 h2
      have z4 : Z = (Z.toNat : Int) := by omega
      have z5 : 1 ≤ Z.toNat ∧ Z.toNat ≤ 8 := by omega
      clear z2 HZ HKK hk1 hk z3
      generalize Z.toNat = n at *
      subst z4
      go_wp2_with fail
      refine (fixed_dx _ _ _ n n _ rfl z5.1 z5.2 rfl (unhide R5).d).mono ?_
      rintro e w6 ⟨⟨rfl, a6, c6⟩, o6⟩
      have R6c := (unhide R5).call o6
      rw [h2] at R6c
      generalize fxA ⟨b, 0⟩ n = x at *
      have fz := R6c.fr 2
      have kz := vrow_cell R6c.v (j := 2) (v := .int .u64 0) rfl
      have R7 := hide (R6c.set 2 (.int .u64 x) (D := #[.int .i64 4, .int .i64 0, .int .u64 x, .string ⟨#[]⟩, .bool false, .int .i64 0, .int .i64 0, .int .i64 0, .int .i64 0, .int .i64 0, .int .i64 0, .int .i64 0]) rfl)
      have HV := hide (show vaC VR = #[.int .i64 4, .int .i64 0, .int .u64 x, .string ⟨#[]⟩, .bool false, .int .i64 0, .int .i64 0, .int .i64 0, .int .i64 0, .int .i64 0, .int .i64 0, .int .i64 0] by rw [← h1]; rfl)
      clear R6c o6 R5 h1 h2 a6 c6
      go_wp2_with fail
      go_meet
      rw [unhide HV]
      exact unhide R7
    · have hk1 : kdV t un = 5 := (unhide HKK).symm
      rw [if_neg (by omega), if_neg (by omega), if_pos (by omega), hk1] at hv
      injection hv with h1 h2
      clear HZ HKK hk1 hk
      go_wp2_with fail
      refine (whenOf_ref _ _ t _ (unhide R5).d q0 q1).mono ?_
      rintro e w6 ⟨rfl, o6⟩
      have R6c := (unhide R5).call o6
      rw [h2] at R6c
      generalize (wnR ⟨b, 0⟩ t).1 = W at *
      obtain ⟨ng, y, mo, d, h, mi, s, mc⟩ := W
      unfold whC
      simp only
      have f104 := R6c.fr 4
      have c104 := vrow_cell R6c.v (j := 4) (v := .bool false) rfl
      have f105 := R6c.fr 5
      have c105 := vrow_cell R6c.v (j := 5) (v := .int .i64 0) rfl
      have f106 := R6c.fr 6
      have c106 := vrow_cell R6c.v (j := 6) (v := .int .i64 0) rfl
      have f107 := R6c.fr 7
      have c107 := vrow_cell R6c.v (j := 7) (v := .int .i64 0) rfl
      have f108 := R6c.fr 8
      have c108 := vrow_cell R6c.v (j := 8) (v := .int .i64 0) rfl
      have f109 := R6c.fr 9
      have c109 := vrow_cell R6c.v (j := 9) (v := .int .i64 0) rfl
      have f110 := R6c.fr 10
      have c110 := vrow_cell R6c.v (j := 10) (v := .int .i64 0) rfl
      have f111 := R6c.fr 11
      have c111 := vrow_cell R6c.v (j := 11) (v := .int .i64 0) rfl
      have R7 := hide (Rz.set (Rz.set (Rz.set (Rz.set (Rz.set (Rz.set (Rz.set (Rz.set R6c 4 (.bool ng) (D := #[.int .i64 5, .int .i64 0, .int .u64 0, .string ⟨#[]⟩, .bool ng, .int .i64 0, .int .i64 0, .int .i64 0, .int .i64 0, .int .i64 0, .int .i64 0, .int .i64 0]) rfl) 5 (.int .i64 y) (D := #[.int .i64 5, .int .i64 0, .int .u64 0, .string ⟨#[]⟩, .bool ng, .int .i64 y, .int .i64 0, .int .i64 0, .int .i64 0, .int .i64 0, .int .i64 0, .int .i64 0]) rfl) 6 (.int .i64 mo) (D := #[.int .i64 5, .int .i64 0, .int .u64 0, .string ⟨#[]⟩, .bool ng, .int .i64 y, .int .i64 mo, .int .i64 0, .int .i64 0, .int .i64 0, .int .i64 0, .int .i64 0]) rfl) 7 (.int .i64 d) (D := #[.int .i64 5, .int .i64 0, .int .u64 0, .string ⟨#[]⟩, .bool ng, .int .i64 y, .int .i64 mo, .int .i64 d, .int .i64 0, .int .i64 0, .int .i64 0, .int .i64 0]) rfl) 8 (.int .i64 h) (D := #[.int .i64 5, .int .i64 0, .int .u64 0, .string ⟨#[]⟩, .bool ng, .int .i64 y, .int .i64 mo, .int .i64 d, .int .i64 h, .int .i64 0, .int .i64 0, .int .i64 0]) rfl) 9 (.int .i64 mi) (D := #[.int .i64 5, .int .i64 0, .int .u64 0, .string ⟨#[]⟩, .bool ng, .int .i64 y, .int .i64 mo, .int .i64 d, .int .i64 h, .int .i64 mi, .int .i64 0, .int .i64 0]) rfl) 10 (.int .i64 s) (D := #[.int .i64 5, .int .i64 0, .int .u64 0, .string ⟨#[]⟩, .bool ng, .int .i64 y, .int .i64 mo, .int .i64 d, .int .i64 h, .int .i64 mi, .int .i64 s, .int .i64 0]) rfl) 11 (.int .i64 mc) (D := #[.int .i64 5, .int .i64 0, .int .u64 0, .string ⟨#[]⟩, .bool ng, .int .i64 y, .int .i64 mo, .int .i64 d, .int .i64 h, .int .i64 mi, .int .i64 s, .int .i64 mc]) rfl)
      have HV := hide (show vaC VR = #[.int .i64 5, .int .i64 0, .int .u64 0, .string ⟨#[]⟩, .bool ng, .int .i64 y, .int .i64 mo, .int .i64 d, .int .i64 h, .int .i64 mi, .int .i64 s, .int .i64 mc] by rw [← h1]; rfl)
      clear R6c o6 R5 h1 h2
      go_wp2_with fail
      go_meet
      rw [unhide HV]
      exact unhide R7
    · have hk1 : kdV t un = 6 := (unhide HKK).symm
      rw [if_neg (by omega), if_neg (by omega), if_pos (by omega), hk1] at hv
      injection hv with h1 h2
      clear HZ HKK hk1 hk
      go_wp2_with fail
      refine (whenOf_ref _ _ t _ (unhide R5).d q0 q1).mono ?_
      rintro e w6 ⟨rfl, o6⟩
      have R6c := (unhide R5).call o6
      rw [h2] at R6c
      generalize (wnR ⟨b, 0⟩ t).1 = W at *
      obtain ⟨ng, y, mo, d, h, mi, s, mc⟩ := W
      unfold whC
      simp only
      have f104 := R6c.fr 4
      have c104 := vrow_cell R6c.v (j := 4) (v := .bool false) rfl
      have f105 := R6c.fr 5
      have c105 := vrow_cell R6c.v (j := 5) (v := .int .i64 0) rfl
      have f106 := R6c.fr 6
      have c106 := vrow_cell R6c.v (j := 6) (v := .int .i64 0) rfl
      have f107 := R6c.fr 7
      have c107 := vrow_cell R6c.v (j := 7) (v := .int .i64 0) rfl
      have f108 := R6c.fr 8
      have c108 := vrow_cell R6c.v (j := 8) (v := .int .i64 0) rfl
      have f109 := R6c.fr 9
      have c109 := vrow_cell R6c.v (j := 9) (v := .int .i64 0) rfl
      have f110 := R6c.fr 10
      have c110 := vrow_cell R6c.v (j := 10) (v := .int .i64 0) rfl
      have f111 := R6c.fr 11
      have c111 := vrow_cell R6c.v (j := 11) (v := .int .i64 0) rfl
      have R7 := hide (Rz.set (Rz.set (Rz.set (Rz.set (Rz.set (Rz.set (Rz.set (Rz.set R6c 4 (.bool ng) (D := #[.int .i64 6, .int .i64 0, .int .u64 0, .string ⟨#[]⟩, .bool ng, .int .i64 0, .int .i64 0, .int .i64 0, .int .i64 0, .int .i64 0, .int .i64 0, .int .i64 0]) rfl) 5 (.int .i64 y) (D := #[.int .i64 6, .int .i64 0, .int .u64 0, .string ⟨#[]⟩, .bool ng, .int .i64 y, .int .i64 0, .int .i64 0, .int .i64 0, .int .i64 0, .int .i64 0, .int .i64 0]) rfl) 6 (.int .i64 mo) (D := #[.int .i64 6, .int .i64 0, .int .u64 0, .string ⟨#[]⟩, .bool ng, .int .i64 y, .int .i64 mo, .int .i64 0, .int .i64 0, .int .i64 0, .int .i64 0, .int .i64 0]) rfl) 7 (.int .i64 d) (D := #[.int .i64 6, .int .i64 0, .int .u64 0, .string ⟨#[]⟩, .bool ng, .int .i64 y, .int .i64 mo, .int .i64 d, .int .i64 0, .int .i64 0, .int .i64 0, .int .i64 0]) rfl) 8 (.int .i64 h) (D := #[.int .i64 6, .int .i64 0, .int .u64 0, .string ⟨#[]⟩, .bool ng, .int .i64 y, .int .i64 mo, .int .i64 d, .int .i64 h, .int .i64 0, .int .i64 0, .int .i64 0]) rfl) 9 (.int .i64 mi) (D := #[.int .i64 6, .int .i64 0, .int .u64 0, .string ⟨#[]⟩, .bool ng, .int .i64 y, .int .i64 mo, .int .i64 d, .int .i64 h, .int .i64 mi, .int .i64 0, .int .i64 0]) rfl) 10 (.int .i64 s) (D := #[.int .i64 6, .int .i64 0, .int .u64 0, .string ⟨#[]⟩, .bool ng, .int .i64 y, .int .i64 mo, .int .i64 d, .int .i64 h, .int .i64 mi, .int .i64 s, .int .i64 0]) rfl) 11 (.int .i64 mc) (D := #[.int .i64 6, .int .i64 0, .int .u64 0, .string ⟨#[]⟩, .bool ng, .int .i64 y, .int .i64 mo, .int .i64 d, .int .i64 h, .int .i64 mi, .int .i64 s, .int .i64 mc]) rfl)
      have HV := hide (show vaC VR = #[.int .i64 6, .int .i64 0, .int .u64 0, .string ⟨#[]⟩, .bool ng, .int .i64 y, .int .i64 mo, .int .i64 d, .int .i64 h, .int .i64 mi, .int .i64 s, .int .i64 mc] by rw [← h1]; rfl)
      clear R6c o6 R5 h1 h2
      go_wp2_with fail
      go_meet
      rw [unhide HV]
      exact unhide R7
    · have hk1 : kdV t un = 7 := (unhide HKK).symm
      rw [if_neg (by omega), if_neg (by omega), if_neg (by omega), if_pos hk1] at hv
      injection hv with h1 h2
      clear HZ HKK hk1 hk
      go_wp2_with fail
      refine (text_dx _ _ _ (unhide R5).d).mono ?_
      rintro e w6 ⟨⟨rfl, a6⟩, o6⟩
      have R6c := (unhide R5).call o6
      generalize txA ⟨b, 0⟩ = X at *
      generalize txS ⟨b, 0⟩ = s1 at *
      have fz := R6c.fr 3
      have kz := vrow_cell R6c.v (j := 3) (v := .string ⟨#[]⟩) rfl
      have R7 := hide (R6c.set 3 (.string X) (D := #[.int .i64 7, .int .i64 0, .int .u64 0, .string X, .bool false, .int .i64 0, .int .i64 0, .int .i64 0, .int .i64 0, .int .i64 0, .int .i64 0, .int .i64 0]) rfl)
      have kz2 := vrow_cell (unhide R7).v (j := 3) (v := .string X) rfl
      have HV := hide (show vaC VR = #[.int .i64 7, .int .i64 0, .int .u64 0, .string X, .bool false, .int .i64 0, .int .i64 0, .int .i64 0, .int .i64 0, .int .i64 0, .int .i64 0, .int .i64 0] by rw [← h1]; rfl)
      clear R6c o6 R5 h1
      have hw := hide (show decide ((16777216 : Int) < (X.size : Int)) = !decide (X.size ≤ 16777216) by by_cases hx : X.size ≤ 16777216 <;> simp [hx] <;> omega)
      go_wp2_with fail
      refine (wrong_dx _ _ _ (decide (X.size ≤ 16777216)) _ (unhide hw) (unhide R7).d).mono ?_
      rintro e w8 ⟨rfl, o8⟩
      have R8 := hide ((unhide R7).call o8)
      rw [h2] at R8
      clear o8 R7 kz2 kz fz hw h2
      go_wp2_with fail
      go_meet
      rw [unhide HV]
      exact unhide R8
  have R9 := hide hcut
  clear hcut R5 cK cS SK OK HB2 HW HB hby hRR PP HB3 t0 t1
  have hgl := (unhide R9).lt
  have hgg := (unhide R9).gt
  obtain ⟨fo, fn, fc, k0, hfl, hfe, hfm⟩ := (unhide R9).d.c0
  have kE := (unhide R9).d.c1
  have PD := hide (unhide R9).p
  have lg := (unhide R9).d.lt
  have lG := (Array.getElem?_eq_some_iff.1 (unhide R9).v).1
  have u0 := vrow_cell (unhide R9).p.rr (j := 0) (v := .int .i64 0) rfl
  have uf0 := frozen_of_row _ _ 0 _ _ (unhide R9).p.rr
  have u1 := vrow_cell (unhide R9).p.rr (j := 1) (v := .int .i64 0) rfl
  have uf1 := frozen_of_row _ _ 1 _ _ (unhide R9).p.rr
  have u2 := vrow_cell (unhide R9).p.rr (j := 2) (v := .int .u64 0) rfl
  have uf2 := frozen_of_row _ _ 2 _ _ (unhide R9).p.rr
  have u3 := vrow_cell (unhide R9).p.rr (j := 3) (v := .string ⟨#[]⟩) rfl
  have uf3 := frozen_of_row _ _ 3 _ _ (unhide R9).p.rr
  have u4 := vrow_cell (unhide R9).p.rr (j := 4) (v := .bool false) rfl
  have uf4 := frozen_of_row _ _ 4 _ _ (unhide R9).p.rr
  have u5 := vrow_cell (unhide R9).p.rr (j := 5) (v := .int .i64 0) rfl
  have uf5 := frozen_of_row _ _ 5 _ _ (unhide R9).p.rr
  have u6 := vrow_cell (unhide R9).p.rr (j := 6) (v := .int .i64 0) rfl
  have uf6 := frozen_of_row _ _ 6 _ _ (unhide R9).p.rr
  have u7 := vrow_cell (unhide R9).p.rr (j := 7) (v := .int .i64 0) rfl
  have uf7 := frozen_of_row _ _ 7 _ _ (unhide R9).p.rr
  have u8 := vrow_cell (unhide R9).p.rr (j := 8) (v := .int .i64 0) rfl
  have uf8 := frozen_of_row _ _ 8 _ _ (unhide R9).p.rr
  have u9 := vrow_cell (unhide R9).p.rr (j := 9) (v := .int .i64 0) rfl
  have uf9 := frozen_of_row _ _ 9 _ _ (unhide R9).p.rr
  have u10 := vrow_cell (unhide R9).p.rr (j := 10) (v := .int .i64 0) rfl
  have uf10 := frozen_of_row _ _ 10 _ _ (unhide R9).p.rr
  have u11 := vrow_cell (unhide R9).p.rr (j := 11) (v := .int .i64 0) rfl
  have uf11 := frozen_of_row _ _ 11 _ _ (unhide R9).p.rr
  by_cases he : SR.e = 0
  · have he' : (SR.e != 0) = false := by simpa using he
    have HE := hide (show rdV b t un = (VR, (b.length : Int) - (SR.b.length : Int), 0) by rw [unhide HR, if_pos he])
    have SV := hide (vaC_size VR)
    have OV := hide (vaC_one VR)
    have RV := (unhide R9).v
    clear HR he
    obtain ⟨E, hE⟩ : ∃ z, z = SR.e := ⟨_, rfl⟩
    rw [← hE] at kE he'
    obtain ⟨FL, hFL⟩ : ∃ z, z = SR.b.length := ⟨_, rfl⟩
    rw [← hFL] at HE hfl
    clear hE hFL R9
    obtain ⟨k, i, b1, tx, ⟨ng, y, mo, d, h, mi, s1, mc⟩⟩ := VR
    unfold vaC at SV OV RV
    simp only at SV OV RV
    have g0 := vrow_cell RV (j := 0) (v := .int .i64 k) rfl
    have g1 := vrow_cell RV (j := 1) (v := .int .i64 i) rfl
    have g2 := vrow_cell RV (j := 2) (v := .int .u64 b1) rfl
    have g3 := vrow_cell RV (j := 3) (v := .string tx) rfl
    have g4 := vrow_cell RV (j := 4) (v := .bool ng) rfl
    have g5 := vrow_cell RV (j := 5) (v := .int .i64 y) rfl
    have g6 := vrow_cell RV (j := 6) (v := .int .i64 mo) rfl
    have g7 := vrow_cell RV (j := 7) (v := .int .i64 d) rfl
    have g8 := vrow_cell RV (j := 8) (v := .int .i64 h) rfl
    have g9 := vrow_cell RV (j := 9) (v := .int .i64 mi) rfl
    have g10 := vrow_cell RV (j := 10) (v := .int .i64 s1) rfl
    have g11 := vrow_cell RV (j := 11) (v := .int .i64 mc) rfl
    have KS := hide (fun wS (gS : Gb (w.heap.size + 1) wc wS) => (show wS.drew.cell? ⟨w3.heap.size, 0, none⟩ = some (.slice fo fn fc) ∧ wS.drew.cell? ⟨w3.heap.size + 1, 0, none⟩ = some (.int .i64 k) ∧ wS.drew.cell? ⟨w3.heap.size + 1, 1, none⟩ = some (.int .i64 i) ∧ wS.drew.cell? ⟨w3.heap.size + 1, 2, none⟩ = some (.int .u64 b1) ∧ wS.drew.cell? ⟨w3.heap.size + 1, 3, none⟩ = some (.string tx) ∧ wS.drew.cell? ⟨w3.heap.size + 1, 4, none⟩ = some (.bool ng) ∧ wS.drew.cell? ⟨w3.heap.size + 1, 5, none⟩ = some (.int .i64 y) ∧ wS.drew.cell? ⟨w3.heap.size + 1, 6, none⟩ = some (.int .i64 mo) ∧ wS.drew.cell? ⟨w3.heap.size + 1, 7, none⟩ = some (.int .i64 d) ∧ wS.drew.cell? ⟨w3.heap.size + 1, 8, none⟩ = some (.int .i64 h) ∧ wS.drew.cell? ⟨w3.heap.size + 1, 9, none⟩ = some (.int .i64 mi) ∧ wS.drew.cell? ⟨w3.heap.size + 1, 10, none⟩ = some (.int .i64 s1) ∧ wS.drew.cell? ⟨w3.heap.size + 1, 11, none⟩ = some (.int .i64 mc) by
      have q1 := gS.block w3.heap.size lg (by omega)
      have q2 := gS.block (w3.heap.size + 1) lG (by omega)
      refine ⟨by show wS.cell? _ = _; rw [World.cell?_of_block (w := wc) (a := ⟨w3.heap.size, 0, none⟩) q1]; exact k0, by show wS.cell? _ = _; rw [World.cell?_of_block (w := wc) (a := ⟨w3.heap.size + 1, 0, none⟩) q2]; exact g0, by show wS.cell? _ = _; rw [World.cell?_of_block (w := wc) (a := ⟨w3.heap.size + 1, 1, none⟩) q2]; exact g1, by show wS.cell? _ = _; rw [World.cell?_of_block (w := wc) (a := ⟨w3.heap.size + 1, 2, none⟩) q2]; exact g2, by show wS.cell? _ = _; rw [World.cell?_of_block (w := wc) (a := ⟨w3.heap.size + 1, 3, none⟩) q2]; exact g3, by show wS.cell? _ = _; rw [World.cell?_of_block (w := wc) (a := ⟨w3.heap.size + 1, 4, none⟩) q2]; exact g4, by show wS.cell? _ = _; rw [World.cell?_of_block (w := wc) (a := ⟨w3.heap.size + 1, 5, none⟩) q2]; exact g5, by show wS.cell? _ = _; rw [World.cell?_of_block (w := wc) (a := ⟨w3.heap.size + 1, 6, none⟩) q2]; exact g6, by show wS.cell? _ = _; rw [World.cell?_of_block (w := wc) (a := ⟨w3.heap.size + 1, 7, none⟩) q2]; exact g7, by show wS.cell? _ = _; rw [World.cell?_of_block (w := wc) (a := ⟨w3.heap.size + 1, 8, none⟩) q2]; exact g8, by show wS.cell? _ = _; rw [World.cell?_of_block (w := wc) (a := ⟨w3.heap.size + 1, 9, none⟩) q2]; exact g9, by show wS.cell? _ = _; rw [World.cell?_of_block (w := wc) (a := ⟨w3.heap.size + 1, 10, none⟩) q2]; exact g10, by show wS.cell? _ = _; rw [World.cell?_of_block (w := wc) (a := ⟨w3.heap.size + 1, 11, none⟩) q2]; exact g11⟩))
    have HS0 := hide (show wc.drew.cell? ⟨w3.heap.size, 0, none⟩ = some (.slice fo fn fc) ∧ wc.drew.cell? ⟨w3.heap.size + 1, 0, none⟩ = some (.int .i64 k) ∧ wc.drew.cell? ⟨w3.heap.size + 1, 1, none⟩ = some (.int .i64 i) ∧ wc.drew.cell? ⟨w3.heap.size + 1, 2, none⟩ = some (.int .u64 b1) ∧ wc.drew.cell? ⟨w3.heap.size + 1, 3, none⟩ = some (.string tx) ∧ wc.drew.cell? ⟨w3.heap.size + 1, 4, none⟩ = some (.bool ng) ∧ wc.drew.cell? ⟨w3.heap.size + 1, 5, none⟩ = some (.int .i64 y) ∧ wc.drew.cell? ⟨w3.heap.size + 1, 6, none⟩ = some (.int .i64 mo) ∧ wc.drew.cell? ⟨w3.heap.size + 1, 7, none⟩ = some (.int .i64 d) ∧ wc.drew.cell? ⟨w3.heap.size + 1, 8, none⟩ = some (.int .i64 h) ∧ wc.drew.cell? ⟨w3.heap.size + 1, 9, none⟩ = some (.int .i64 mi) ∧ wc.drew.cell? ⟨w3.heap.size + 1, 10, none⟩ = some (.int .i64 s1) ∧ wc.drew.cell? ⟨w3.heap.size + 1, 11, none⟩ = some (.int .i64 mc) from ⟨k0, g0, g1, g2, g3, g4, g5, g6, g7, g8, g9, g10, g11⟩)
    have HS12 := hide (show ((((((((((((wc.setCell ⟨w.heap.size + 1, 0, none⟩ (.int .i64 k)).setCell ⟨w.heap.size + 1, 1, none⟩ (.int .i64 i)).setCell ⟨w.heap.size + 1, 2, none⟩ (.int .u64 b1)).setCell ⟨w.heap.size + 1, 3, none⟩ (.string tx)).setCell ⟨w.heap.size + 1, 4, none⟩ (.bool ng)).setCell ⟨w.heap.size + 1, 5, none⟩ (.int .i64 y)).setCell ⟨w.heap.size + 1, 6, none⟩ (.int .i64 mo)).setCell ⟨w.heap.size + 1, 7, none⟩ (.int .i64 d)).setCell ⟨w.heap.size + 1, 8, none⟩ (.int .i64 h)).setCell ⟨w.heap.size + 1, 9, none⟩ (.int .i64 mi)).setCell ⟨w.heap.size + 1, 10, none⟩ (.int .i64 s1)).setCell ⟨w.heap.size + 1, 11, none⟩ (.int .i64 mc)).drew.cell? ⟨w3.heap.size, 0, none⟩ = some (.slice fo fn fc) ∧ ((((((((((((wc.setCell ⟨w.heap.size + 1, 0, none⟩ (.int .i64 k)).setCell ⟨w.heap.size + 1, 1, none⟩ (.int .i64 i)).setCell ⟨w.heap.size + 1, 2, none⟩ (.int .u64 b1)).setCell ⟨w.heap.size + 1, 3, none⟩ (.string tx)).setCell ⟨w.heap.size + 1, 4, none⟩ (.bool ng)).setCell ⟨w.heap.size + 1, 5, none⟩ (.int .i64 y)).setCell ⟨w.heap.size + 1, 6, none⟩ (.int .i64 mo)).setCell ⟨w.heap.size + 1, 7, none⟩ (.int .i64 d)).setCell ⟨w.heap.size + 1, 8, none⟩ (.int .i64 h)).setCell ⟨w.heap.size + 1, 9, none⟩ (.int .i64 mi)).setCell ⟨w.heap.size + 1, 10, none⟩ (.int .i64 s1)).setCell ⟨w.heap.size + 1, 11, none⟩ (.int .i64 mc)).drew.cell? ⟨w3.heap.size + 1, 0, none⟩ = some (.int .i64 k) ∧ ((((((((((((wc.setCell ⟨w.heap.size + 1, 0, none⟩ (.int .i64 k)).setCell ⟨w.heap.size + 1, 1, none⟩ (.int .i64 i)).setCell ⟨w.heap.size + 1, 2, none⟩ (.int .u64 b1)).setCell ⟨w.heap.size + 1, 3, none⟩ (.string tx)).setCell ⟨w.heap.size + 1, 4, none⟩ (.bool ng)).setCell ⟨w.heap.size + 1, 5, none⟩ (.int .i64 y)).setCell ⟨w.heap.size + 1, 6, none⟩ (.int .i64 mo)).setCell ⟨w.heap.size + 1, 7, none⟩ (.int .i64 d)).setCell ⟨w.heap.size + 1, 8, none⟩ (.int .i64 h)).setCell ⟨w.heap.size + 1, 9, none⟩ (.int .i64 mi)).setCell ⟨w.heap.size + 1, 10, none⟩ (.int .i64 s1)).setCell ⟨w.heap.size + 1, 11, none⟩ (.int .i64 mc)).drew.cell? ⟨w3.heap.size + 1, 1, none⟩ = some (.int .i64 i) ∧ ((((((((((((wc.setCell ⟨w.heap.size + 1, 0, none⟩ (.int .i64 k)).setCell ⟨w.heap.size + 1, 1, none⟩ (.int .i64 i)).setCell ⟨w.heap.size + 1, 2, none⟩ (.int .u64 b1)).setCell ⟨w.heap.size + 1, 3, none⟩ (.string tx)).setCell ⟨w.heap.size + 1, 4, none⟩ (.bool ng)).setCell ⟨w.heap.size + 1, 5, none⟩ (.int .i64 y)).setCell ⟨w.heap.size + 1, 6, none⟩ (.int .i64 mo)).setCell ⟨w.heap.size + 1, 7, none⟩ (.int .i64 d)).setCell ⟨w.heap.size + 1, 8, none⟩ (.int .i64 h)).setCell ⟨w.heap.size + 1, 9, none⟩ (.int .i64 mi)).setCell ⟨w.heap.size + 1, 10, none⟩ (.int .i64 s1)).setCell ⟨w.heap.size + 1, 11, none⟩ (.int .i64 mc)).drew.cell? ⟨w3.heap.size + 1, 2, none⟩ = some (.int .u64 b1) ∧ ((((((((((((wc.setCell ⟨w.heap.size + 1, 0, none⟩ (.int .i64 k)).setCell ⟨w.heap.size + 1, 1, none⟩ (.int .i64 i)).setCell ⟨w.heap.size + 1, 2, none⟩ (.int .u64 b1)).setCell ⟨w.heap.size + 1, 3, none⟩ (.string tx)).setCell ⟨w.heap.size + 1, 4, none⟩ (.bool ng)).setCell ⟨w.heap.size + 1, 5, none⟩ (.int .i64 y)).setCell ⟨w.heap.size + 1, 6, none⟩ (.int .i64 mo)).setCell ⟨w.heap.size + 1, 7, none⟩ (.int .i64 d)).setCell ⟨w.heap.size + 1, 8, none⟩ (.int .i64 h)).setCell ⟨w.heap.size + 1, 9, none⟩ (.int .i64 mi)).setCell ⟨w.heap.size + 1, 10, none⟩ (.int .i64 s1)).setCell ⟨w.heap.size + 1, 11, none⟩ (.int .i64 mc)).drew.cell? ⟨w3.heap.size + 1, 3, none⟩ = some (.string tx) ∧ ((((((((((((wc.setCell ⟨w.heap.size + 1, 0, none⟩ (.int .i64 k)).setCell ⟨w.heap.size + 1, 1, none⟩ (.int .i64 i)).setCell ⟨w.heap.size + 1, 2, none⟩ (.int .u64 b1)).setCell ⟨w.heap.size + 1, 3, none⟩ (.string tx)).setCell ⟨w.heap.size + 1, 4, none⟩ (.bool ng)).setCell ⟨w.heap.size + 1, 5, none⟩ (.int .i64 y)).setCell ⟨w.heap.size + 1, 6, none⟩ (.int .i64 mo)).setCell ⟨w.heap.size + 1, 7, none⟩ (.int .i64 d)).setCell ⟨w.heap.size + 1, 8, none⟩ (.int .i64 h)).setCell ⟨w.heap.size + 1, 9, none⟩ (.int .i64 mi)).setCell ⟨w.heap.size + 1, 10, none⟩ (.int .i64 s1)).setCell ⟨w.heap.size + 1, 11, none⟩ (.int .i64 mc)).drew.cell? ⟨w3.heap.size + 1, 4, none⟩ = some (.bool ng) ∧ ((((((((((((wc.setCell ⟨w.heap.size + 1, 0, none⟩ (.int .i64 k)).setCell ⟨w.heap.size + 1, 1, none⟩ (.int .i64 i)).setCell ⟨w.heap.size + 1, 2, none⟩ (.int .u64 b1)).setCell ⟨w.heap.size + 1, 3, none⟩ (.string tx)).setCell ⟨w.heap.size + 1, 4, none⟩ (.bool ng)).setCell ⟨w.heap.size + 1, 5, none⟩ (.int .i64 y)).setCell ⟨w.heap.size + 1, 6, none⟩ (.int .i64 mo)).setCell ⟨w.heap.size + 1, 7, none⟩ (.int .i64 d)).setCell ⟨w.heap.size + 1, 8, none⟩ (.int .i64 h)).setCell ⟨w.heap.size + 1, 9, none⟩ (.int .i64 mi)).setCell ⟨w.heap.size + 1, 10, none⟩ (.int .i64 s1)).setCell ⟨w.heap.size + 1, 11, none⟩ (.int .i64 mc)).drew.cell? ⟨w3.heap.size + 1, 5, none⟩ = some (.int .i64 y) ∧ ((((((((((((wc.setCell ⟨w.heap.size + 1, 0, none⟩ (.int .i64 k)).setCell ⟨w.heap.size + 1, 1, none⟩ (.int .i64 i)).setCell ⟨w.heap.size + 1, 2, none⟩ (.int .u64 b1)).setCell ⟨w.heap.size + 1, 3, none⟩ (.string tx)).setCell ⟨w.heap.size + 1, 4, none⟩ (.bool ng)).setCell ⟨w.heap.size + 1, 5, none⟩ (.int .i64 y)).setCell ⟨w.heap.size + 1, 6, none⟩ (.int .i64 mo)).setCell ⟨w.heap.size + 1, 7, none⟩ (.int .i64 d)).setCell ⟨w.heap.size + 1, 8, none⟩ (.int .i64 h)).setCell ⟨w.heap.size + 1, 9, none⟩ (.int .i64 mi)).setCell ⟨w.heap.size + 1, 10, none⟩ (.int .i64 s1)).setCell ⟨w.heap.size + 1, 11, none⟩ (.int .i64 mc)).drew.cell? ⟨w3.heap.size + 1, 6, none⟩ = some (.int .i64 mo) ∧ ((((((((((((wc.setCell ⟨w.heap.size + 1, 0, none⟩ (.int .i64 k)).setCell ⟨w.heap.size + 1, 1, none⟩ (.int .i64 i)).setCell ⟨w.heap.size + 1, 2, none⟩ (.int .u64 b1)).setCell ⟨w.heap.size + 1, 3, none⟩ (.string tx)).setCell ⟨w.heap.size + 1, 4, none⟩ (.bool ng)).setCell ⟨w.heap.size + 1, 5, none⟩ (.int .i64 y)).setCell ⟨w.heap.size + 1, 6, none⟩ (.int .i64 mo)).setCell ⟨w.heap.size + 1, 7, none⟩ (.int .i64 d)).setCell ⟨w.heap.size + 1, 8, none⟩ (.int .i64 h)).setCell ⟨w.heap.size + 1, 9, none⟩ (.int .i64 mi)).setCell ⟨w.heap.size + 1, 10, none⟩ (.int .i64 s1)).setCell ⟨w.heap.size + 1, 11, none⟩ (.int .i64 mc)).drew.cell? ⟨w3.heap.size + 1, 7, none⟩ = some (.int .i64 d) ∧ ((((((((((((wc.setCell ⟨w.heap.size + 1, 0, none⟩ (.int .i64 k)).setCell ⟨w.heap.size + 1, 1, none⟩ (.int .i64 i)).setCell ⟨w.heap.size + 1, 2, none⟩ (.int .u64 b1)).setCell ⟨w.heap.size + 1, 3, none⟩ (.string tx)).setCell ⟨w.heap.size + 1, 4, none⟩ (.bool ng)).setCell ⟨w.heap.size + 1, 5, none⟩ (.int .i64 y)).setCell ⟨w.heap.size + 1, 6, none⟩ (.int .i64 mo)).setCell ⟨w.heap.size + 1, 7, none⟩ (.int .i64 d)).setCell ⟨w.heap.size + 1, 8, none⟩ (.int .i64 h)).setCell ⟨w.heap.size + 1, 9, none⟩ (.int .i64 mi)).setCell ⟨w.heap.size + 1, 10, none⟩ (.int .i64 s1)).setCell ⟨w.heap.size + 1, 11, none⟩ (.int .i64 mc)).drew.cell? ⟨w3.heap.size + 1, 8, none⟩ = some (.int .i64 h) ∧ ((((((((((((wc.setCell ⟨w.heap.size + 1, 0, none⟩ (.int .i64 k)).setCell ⟨w.heap.size + 1, 1, none⟩ (.int .i64 i)).setCell ⟨w.heap.size + 1, 2, none⟩ (.int .u64 b1)).setCell ⟨w.heap.size + 1, 3, none⟩ (.string tx)).setCell ⟨w.heap.size + 1, 4, none⟩ (.bool ng)).setCell ⟨w.heap.size + 1, 5, none⟩ (.int .i64 y)).setCell ⟨w.heap.size + 1, 6, none⟩ (.int .i64 mo)).setCell ⟨w.heap.size + 1, 7, none⟩ (.int .i64 d)).setCell ⟨w.heap.size + 1, 8, none⟩ (.int .i64 h)).setCell ⟨w.heap.size + 1, 9, none⟩ (.int .i64 mi)).setCell ⟨w.heap.size + 1, 10, none⟩ (.int .i64 s1)).setCell ⟨w.heap.size + 1, 11, none⟩ (.int .i64 mc)).drew.cell? ⟨w3.heap.size + 1, 9, none⟩ = some (.int .i64 mi) ∧ ((((((((((((wc.setCell ⟨w.heap.size + 1, 0, none⟩ (.int .i64 k)).setCell ⟨w.heap.size + 1, 1, none⟩ (.int .i64 i)).setCell ⟨w.heap.size + 1, 2, none⟩ (.int .u64 b1)).setCell ⟨w.heap.size + 1, 3, none⟩ (.string tx)).setCell ⟨w.heap.size + 1, 4, none⟩ (.bool ng)).setCell ⟨w.heap.size + 1, 5, none⟩ (.int .i64 y)).setCell ⟨w.heap.size + 1, 6, none⟩ (.int .i64 mo)).setCell ⟨w.heap.size + 1, 7, none⟩ (.int .i64 d)).setCell ⟨w.heap.size + 1, 8, none⟩ (.int .i64 h)).setCell ⟨w.heap.size + 1, 9, none⟩ (.int .i64 mi)).setCell ⟨w.heap.size + 1, 10, none⟩ (.int .i64 s1)).setCell ⟨w.heap.size + 1, 11, none⟩ (.int .i64 mc)).drew.cell? ⟨w3.heap.size + 1, 10, none⟩ = some (.int .i64 s1) ∧ ((((((((((((wc.setCell ⟨w.heap.size + 1, 0, none⟩ (.int .i64 k)).setCell ⟨w.heap.size + 1, 1, none⟩ (.int .i64 i)).setCell ⟨w.heap.size + 1, 2, none⟩ (.int .u64 b1)).setCell ⟨w.heap.size + 1, 3, none⟩ (.string tx)).setCell ⟨w.heap.size + 1, 4, none⟩ (.bool ng)).setCell ⟨w.heap.size + 1, 5, none⟩ (.int .i64 y)).setCell ⟨w.heap.size + 1, 6, none⟩ (.int .i64 mo)).setCell ⟨w.heap.size + 1, 7, none⟩ (.int .i64 d)).setCell ⟨w.heap.size + 1, 8, none⟩ (.int .i64 h)).setCell ⟨w.heap.size + 1, 9, none⟩ (.int .i64 mi)).setCell ⟨w.heap.size + 1, 10, none⟩ (.int .i64 s1)).setCell ⟨w.heap.size + 1, 11, none⟩ (.int .i64 mc)).drew.cell? ⟨w3.heap.size + 1, 11, none⟩ = some (.int .i64 mc) from unhide KS _ gb_sets12)
    clear KS
    go_wp2_with fail
    go_region_held3 (fun w' => w'.cell? ⟨w3.heap.size, 0, none⟩ = some (.slice fo fn fc) ∧ w'.cell? ⟨w3.heap.size + 1, 0, none⟩ = some (.int .i64 k) ∧ w'.cell? ⟨w3.heap.size + 1, 1, none⟩ = some (.int .i64 i) ∧ w'.cell? ⟨w3.heap.size + 1, 2, none⟩ = some (.int .u64 b1) ∧ w'.cell? ⟨w3.heap.size + 1, 3, none⟩ = some (.string tx) ∧ w'.cell? ⟨w3.heap.size + 1, 4, none⟩ = some (.bool ng) ∧ w'.cell? ⟨w3.heap.size + 1, 5, none⟩ = some (.int .i64 y) ∧ w'.cell? ⟨w3.heap.size + 1, 6, none⟩ = some (.int .i64 mo) ∧ w'.cell? ⟨w3.heap.size + 1, 7, none⟩ = some (.int .i64 d) ∧ w'.cell? ⟨w3.heap.size + 1, 8, none⟩ = some (.int .i64 h) ∧ w'.cell? ⟨w3.heap.size + 1, 9, none⟩ = some (.int .i64 mi) ∧ w'.cell? ⟨w3.heap.size + 1, 10, none⟩ = some (.int .i64 s1) ∧ w'.cell? ⟨w3.heap.size + 1, 11, none⟩ = some (.int .i64 mc)) (first | with_reducible exact unhide HS0 | with_reducible exact unhide HS12 | go_keep) (fail)
    go_wp2_with fail
    refine bodyPost_ret (results_row_tmp2 rfl _ _ (w.heap.size + 1) _ rfl (run_loadVar_row _ (w.heap.size + 1) _ _ _ _ _ (drew_row (row_sets12 (unhide PD).rr)) Tryz.underlying32 rfl (unhide SV))) rfl ?_
    rw [unhide HE]
    refine ⟨?_, (((unhide PD).set (row_sets12 (unhide PD).rr) gb_sets12).later (below_drew _)).bl⟩
    have hwr : IntKind.i64.wrap ((bn : Int) - (fn : Int)) = (b.length : Int) - (FL : Int) := by rw [IntKind.wrap_i64]; omega
    have hfin : Ending.returned (.tuple #[.agg #[.int .i64 k, .int .i64 i, .int .u64 b1, .string tx, .bool ng, .int .i64 y, .int .i64 mo, .int .i64 d, .int .i64 h, .int .i64 mi, .int .i64 s1, .int .i64 mc], .int .i64 (IntKind.i64.wrap ((bn : Int) - (fn : Int))), .int .i64 0]) = Ending.returned (.tuple #[.agg #[.int .i64 k, .int .i64 i, .int .u64 b1, .string tx, .bool ng, .int .i64 y, .int .i64 mo, .int .i64 d, .int .i64 h, .int .i64 mi, .int .i64 s1, .int .i64 mc], .int .i64 ((b.length : Int) - (FL : Int)), .int .i64 0]) := by rw [hwr]
    have hw2 : IntKind.i64.wrap ((bn : Int) - (FL : Int)) = (b.length : Int) - (FL : Int) := by rw [IntKind.wrap_i64]; omega
    have hfin2 : Ending.returned (.tuple #[.agg #[.int .i64 k, .int .i64 i, .int .u64 b1, .string tx, .bool ng, .int .i64 y, .int .i64 mo, .int .i64 d, .int .i64 h, .int .i64 mi, .int .i64 s1, .int .i64 mc], .int .i64 (IntKind.i64.wrap ((bn : Int) - (FL : Int))), .int .i64 0]) = Ending.returned (.tuple #[.agg #[.int .i64 k, .int .i64 i, .int .u64 b1, .string tx, .bool ng, .int .i64 y, .int .i64 mo, .int .i64 d, .int .i64 h, .int .i64 mi, .int .i64 s1, .int .i64 mc], .int .i64 ((b.length : Int) - (FL : Int)), .int .i64 0]) := by rw [hw2]
    first | exact hfin | exact hfin2
  · have he' : (SR.e != 0) = true := by simpa using he
    have HE := hide (show rdV b t un = (va0, 0, SR.e) by rw [unhide HR, if_neg he])
    clear HR he
    obtain ⟨E, hE⟩ : ∃ z, z = SR.e := ⟨_, rfl⟩
    rw [← hE] at kE he' HE
    clear hE R9 k0
    have KS := hide (fun wS (gS : Gb (w.heap.size + 1) wc wS) => (show wS.drew.cell? ⟨w3.heap.size, 1, none⟩ = some (.int .i64 E) by
      show wS.cell? ⟨w3.heap.size, 1, none⟩ = some (.int .i64 E)
      rw [World.cell?_of_block (w := wc) (a := ⟨w3.heap.size, 1, none⟩) (gS.block w3.heap.size lg (by omega))]
      exact kE))
    have HS0 := hide (show wc.drew.cell? ⟨w3.heap.size, 1, none⟩ = some (.int .i64 E) from kE)
    have HS12 := hide (show ((((((((((((wc.setCell ⟨w.heap.size + 1, 0, none⟩ (.int .i64 0)).setCell ⟨w.heap.size + 1, 1, none⟩ (.int .i64 0)).setCell ⟨w.heap.size + 1, 2, none⟩ (.int .u64 0)).setCell ⟨w.heap.size + 1, 3, none⟩ (.string ⟨#[]⟩)).setCell ⟨w.heap.size + 1, 4, none⟩ (.bool false)).setCell ⟨w.heap.size + 1, 5, none⟩ (.int .i64 0)).setCell ⟨w.heap.size + 1, 6, none⟩ (.int .i64 0)).setCell ⟨w.heap.size + 1, 7, none⟩ (.int .i64 0)).setCell ⟨w.heap.size + 1, 8, none⟩ (.int .i64 0)).setCell ⟨w.heap.size + 1, 9, none⟩ (.int .i64 0)).setCell ⟨w.heap.size + 1, 10, none⟩ (.int .i64 0)).setCell ⟨w.heap.size + 1, 11, none⟩ (.int .i64 0)).drew.cell? ⟨w3.heap.size, 1, none⟩ = some (.int .i64 E) from unhide KS _ gb_sets12)
    clear KS
    go_wp2_with fail
    go_region_held3 (fun w' => w'.cell? ⟨w3.heap.size, 1, none⟩ = some (.int .i64 E)) (first | with_reducible exact unhide HS0 | with_reducible exact unhide HS12 | go_keep) (fail)
    go_wp2_with fail
    refine bodyPost_ret (results_row_tmp2 rfl _ _ (w.heap.size + 1) _ rfl (run_loadVar_row _ (w.heap.size + 1) _ _ _ _ _ (drew_row (row_sets12 (unhide PD).rr)) Tryz.underlying32 rfl (unhide S0))) rfl ?_
    rw [unhide HE]
    exact ⟨rfl, (((unhide PD).set (row_sets12 (unhide PD).rr) gb_sets12).later (below_drew _)).bl⟩


end Go.Proofs.YtgldbainhncneaaGreatDoor
