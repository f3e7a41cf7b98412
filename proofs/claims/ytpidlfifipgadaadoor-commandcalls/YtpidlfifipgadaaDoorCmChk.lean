/-
  What fields, without, isBare, Check and About of commands return for any command. They write nothing that was there. Conditions: none.
-/
import Derived.Test.YtpidlfifipgadaaDoorCmMem
import Derived.Test.YtpidlfifipgadaaDoorCmPlain
import Derived.BigQuiet
import Derived.BigRegion
import Derived.Laws.Tables
namespace Go.Proofs.YtpidlfifipgadaaDoor
open Go.RowKit
set_option linter.unusedVariables false
set_option linter.unusedSimpArgs false

/-- What fields leaves. -/
def OutFd (w : World) (l : List Int) (e : Ending) (w' : World) : Prop := ∃ ao c, e = .returned (.slice ao l.length c) ∧ Fd w' ao l ∧ (∀ x, ob ao x → w.heap.size ≤ x) ∧ Below w.heap.size w w'
theorem OutFd.nil (w : World) : OutFd w [] (.returned (.slice none 0 0)) w := ⟨none, 0, rfl, .inl rfl, fun x hx => absurd hx ob_none, Below.refl _ _⟩
theorem OutFd.new (w : World) (l : List Int) (c : Nat) : OutFd w l (.returned (.slice (some ⟨w.heap.size, 0, none⟩) l.length c)) (w.alloc (.cells (l.map (Value.int .i64)).toArray 49)) :=
  ⟨_, c, rfl, .inr ⟨_, rfl, heap_alloc_new w _⟩, fun x hx => by have := ob_some.1 hx; simp at this; omega, below_alloc w _⟩

set_option maxHeartbeats 1000000 in
set_option maxRecDepth 100000 in
theorem fields_any (k : Int) (w : World) : Calls Tryd.prog 22 #[.int .u8 k] w fun e w' => OutFd w (fl k) e w' := by
  by_cases h1 : k = 1
  · subst h1
    go_enter Tryd.func22, Tryd.ntmps22
    go_wp2_with fail
    go_ret
    exact OutFd.nil w
  by_cases h9 : k = 9
  · subst h9
    go_enter Tryd.func22, Tryd.ntmps22
    go_wp2_with fail
    go_ret
    exact OutFd.nil w
  by_cases h14 : k = 14
  · subst h14
    go_enter Tryd.func22, Tryd.ntmps22
    go_wp2_with fail
    go_ret
    exact OutFd.nil w
  by_cases h31 : k = 31
  · subst h31
    go_enter Tryd.func22, Tryd.ntmps22
    go_wp2_with fail
    go_ret
    exact OutFd.nil w
  by_cases h2 : k = 2
  · subst h2
    go_enter Tryd.func22, Tryd.ntmps22
    go_wp2_with fail
    go_ret
    exact OutFd.new w [0] _
  by_cases h3 : k = 3
  · subst h3
    go_enter Tryd.func22, Tryd.ntmps22
    go_wp2_with fail
    go_ret
    exact OutFd.new w [0] _
  by_cases h22 : k = 22
  · subst h22
    go_enter Tryd.func22, Tryd.ntmps22
    go_wp2_with fail
    go_ret
    exact OutFd.new w [0] _
  by_cases h12 : k = 12
  · subst h12
    go_enter Tryd.func22, Tryd.ntmps22
    go_wp2_with fail
    go_ret
    exact OutFd.new w [5] _
  by_cases h23 : k = 23
  · subst h23
    go_enter Tryd.func22, Tryd.ntmps22
    go_wp2_with fail
    go_ret
    exact OutFd.new w [1, 3, 4, 7] _
  by_cases h24 : k = 24
  · subst h24
    go_enter Tryd.func22, Tryd.ntmps22
    go_wp2_with fail
    go_ret
    exact OutFd.new w [1, 2, 7] _
  by_cases h25 : k = 25
  · subst h25
    go_enter Tryd.func22, Tryd.ntmps22
    go_wp2_with fail
    go_ret
    exact OutFd.new w [1] _
  by_cases h26 : k = 26
  · subst h26
    go_enter Tryd.func22, Tryd.ntmps22
    go_wp2_with fail
    go_ret
    exact OutFd.new w [1] _
  by_cases h27 : k = 27
  · subst h27
    go_enter Tryd.func22, Tryd.ntmps22
    go_wp2_with fail
    go_ret
    exact OutFd.new w [6] _
  by_cases h28 : k = 28
  · subst h28
    go_enter Tryd.func22, Tryd.ntmps22
    go_wp2_with fail
    go_ret
    exact OutFd.new w [1, 5] _
  have e : fl k = [7] := by
    unfold fl
    rw [if_neg (by omega), if_neg (by omega), if_neg (by omega), if_neg (by omega), if_neg (by omega), if_neg (by omega), if_neg (by omega), if_neg (by omega)]
  have f1 : (k == 1) = false := by simpa using h1
  have f9 : (k == 9) = false := by simpa using h9
  have f14 : (k == 14) = false := by simpa using h14
  have f31 : (k == 31) = false := by simpa using h31
  have f2 : (k == 2) = false := by simpa using h2
  have f3 : (k == 3) = false := by simpa using h3
  have f22 : (k == 22) = false := by simpa using h22
  have f12 : (k == 12) = false := by simpa using h12
  have f23 : (k == 23) = false := by simpa using h23
  have f24 : (k == 24) = false := by simpa using h24
  have f25 : (k == 25) = false := by simpa using h25
  have f26 : (k == 26) = false := by simpa using h26
  have f27 : (k == 27) = false := by simpa using h27
  have f28 : (k == 28) = false := by simpa using h28
  rw [e]
  clear h1 h9 h14 h31 h2 h3 h22 h12 h23 h24 h25 h26 h27 h28 e
  go_enter Tryd.func22, Tryd.ntmps22
  go_wp2_with fail
  go_ret
  exact OutFd.new w [7] _

set_option maxHeartbeats 1000000 in
set_option maxRecDepth 100000 in
theorem without_any (c : Cd) (F : Int) (hF : 0 ≤ F ∧ F ≤ 7) (w : World) :
    Calls Tryd.prog 32 #[.agg c.row, .int .i64 F] w fun e w' => e = .returned (.agg (wo c F).row) ∧ Below w.heap.size w w' := by
  obtain ⟨k, t, s, p, f, n, o, ao, dn, dc⟩ := c
  have hc : F = 0 ∨ F = 1 ∨ F = 2 ∨ F = 3 ∨ F = 4 ∨ F = 5 ∨ F = 6 ∨ F = 7 := by omega
  simp only [Cd.row]
  rcases hc with rfl | rfl | rfl | rfl | rfl | rfl | rfl | rfl
  all_goals
    clear hF
    go_enter Tryd.func32, Tryd.ntmps32
    go_wp2_with fail
    refine bodyPost_ret (results_cell_row rfl _ _ (w.heap.size + 1) _ _ _ _ rfl (heap_alloc2_new w _ _) Tryd.underlying26 rfl (by kernel_rfl)) rfl ?_
    exact ⟨rfl, ((below_alloc w _).alloc (by simp) _)⟩

theorem cd_size (c : Cd) : c.row.size = 8 := rfl
theorem cd_one (c : Cd) : c.row.all (·.oneCell') = true := by obtain ⟨k, t, s, p, f, n, o, ao, dn, dc⟩ := c; simp [Cd.row, Value.oneCell']
theorem wpList_loadC {ops : Array Oper} {rest : List Oper} {o : Oper} {a : Act} {w : World} {Q : Exit → Act → World → Prop} (hgd : o.guard = none) (x : Operand) (ho : o.op = .load 26 x)
    (g : Nat) (C : Cd) (hx : a.eval x = .pointer (some ⟨g, 0, none⟩)) (hg : w.heap[g]? = some (.cells C.row 26 (0, 0)))
    (h : wpList Tryd.prog ops Q rest (a.put o.dst (.agg C.row)) w) : wpList Tryd.prog ops Q (o :: rest) a w :=
  wpList_load_row hgd _ x ho g hx _ C.row (0, 0) _ hg Tryd.underlying26 rfl (by kernel_rfl) h
theorem wpList_storeC {ops : Array Oper} {rest : List Oper} {o : Oper} {a : Act} {w : World} {Q : Exit → Act → World → Prop} (hgd : o.guard = none) (x y : Operand) (ho : o.op = .store 26 x y)
    (g : Nat) (C C0 : Cd) (hx : a.eval x = .pointer (some ⟨g, 0, none⟩)) (hy : a.eval y = .agg C.row) (hg : w.heap[g]? = some (.cells C0.row 26 (0, 0)))
    (h : ∀ w1, w1.heap[g]? = some (.cells C.row 26 (0, 0)) → Gb g w w1 → w1.heap.size = w.heap.size → wpList Tryd.prog ops Q rest (a.put o.dst undef) w1) : wpList Tryd.prog ops Q (o :: rest) a w := by
  refine wpList_store_row hgd _ x y ho g C.row hx hy _ C0.row hg (by kernel_rfl) rfl (cd_one C) ?_
  exact h _ (setRow_heap w g _ _ _ _ hg) ⟨rfl, rfl, rfl, by simp, fun j _ hj => setRow_other w g j _ hj⟩ (by simp)
theorem Tryd.cdSize : (Tryd.prog.info? 26).map (·.size) = some 8 := by kernel_rfl

set_option maxHeartbeats 1000000 in
set_option maxRecDepth 100000 in
theorem isBare_any (c : Cd) (w : World) :
    Calls Tryd.prog 33 #[.agg c.row] w fun e w' => e = .returned (.bool (bare c)) ∧ Below w.heap.size w w' := by
  obtain ⟨k, t, s, p, f, n, o, ao, dn, dc⟩ := c
  simp only [Cd.row, bare]
  by_cases q1 : t.toList = []
  rotate_left
  · rw [decide_eq_false q1]
    go_enter Tryd.func33, Tryd.ntmps33
    go_wp2_with fail
    go_ret
    exact ⟨rfl, below_alloc w _⟩
  have q0 := ba_nil q1
  subst q0
  rw [decide_eq_true q1]
  clear q1
  cases q2 : (s == 0)
  · go_enter Tryd.func33, Tryd.ntmps33
    go_wp2_with fail
    go_ret
    exact ⟨rfl, below_alloc w _⟩
  cases q3 : (p == 0)
  · go_enter Tryd.func33, Tryd.ntmps33
    go_wp2_with fail
    go_ret
    exact ⟨rfl, below_alloc w _⟩
  cases q4 : (f == 0)
  · go_enter Tryd.func33, Tryd.ntmps33
    go_wp2_with fail
    go_ret
    exact ⟨rfl, below_alloc w _⟩
  cases q5 : (n == 0)
  · go_enter Tryd.func33, Tryd.ntmps33
    go_wp2_with fail
    go_ret
    exact ⟨rfl, below_alloc w _⟩
  cases q6 : (o == 0)
  · go_enter Tryd.func33, Tryd.ntmps33
    go_wp2_with fail
    go_ret
    exact ⟨rfl, below_alloc w _⟩
  by_cases q7 : dn = 0
  · subst q7
    go_enter Tryd.func33, Tryd.ntmps33
    go_wp2_with fail
    go_ret
    exact ⟨rfl, below_alloc w _⟩
  · have q8 : ((dn : Int) == 0) = false := by rw [beq_eq_false_iff_ne]; omega
    rw [decide_eq_false q7]
    clear q7
    go_enter Tryd.func33, Tryd.ntmps33
    go_wp2_with fail
    go_ret
    exact ⟨rfl, below_alloc w _⟩

theorem foldl_next {α β : Type} (f : β → α → β) (b : β) (l : List α) (j : Nat) (d : α) (h : j < l.length) : (l.take (j + 1)).foldl f b = f ((l.take j).foldl f b) (l[j]?.getD d) := by
  rw [List.take_add_one, List.getElem?_eq_getElem h, List.foldl_append]
  simp
theorem wo_k (c : Cd) (F : Int) : (wo c F).k = c.k := by unfold wo; (repeat' split) <;> rfl

set_option maxHeartbeats 1000000 in
set_option maxRecDepth 100000 in
theorem cmCheck_any (c : Cd) (w : World) :
    Calls Tryd.prog 15 #[.agg c.row] w fun e w' => e = .returned (.int .i64 (ckC c)) ∧ Below w.heap.size w w' := by
  have b0 := below_alloc w (.cells c.row 26)
  have h0 := heap_alloc_new w (.cells c.row 26)
  have z0 : (w.alloc (.cells c.row 26)).heap.size = w.heap.size + 1 := by simp
  have k4 : (w.alloc (.cells c.row 26)).cell? ⟨w.heap.size, 4, none⟩ = some (.int .u8 c.f) := by rw [cell_of_row _ _ 4 _ _ _ h0]; rfl
  have k0 : (w.alloc (.cells c.row 26)).cell? ⟨w.heap.size, 0, none⟩ = some (.int .u8 c.k) := by rw [cell_of_row _ _ 0 _ _ _ h0]; rfl
  have hbx : ∀ wx : World, (Instr.box 26 (.agg c.row)).run Tryd.prog wx = .ok (.pointer (some ⟨wx.heap.size, 0, none⟩)) (wx.alloc (.cells c.row 26)) := by intro wx; rfl
  by_cases hf : c.f > 1
  · rw [show ckC c = 2 by unfold ckC; rw [if_pos hf]]
    have B0 := hide b0
    generalize c.f = f at *
    generalize c.row = R at *
    clear h0 b0 k0
    go_enter Tryd.func15, Tryd.ntmps15
    go_wp2_with fail
    go_ret
    exact ⟨rfl, unhide B0⟩
  · have HC := hide (show ckC c = if bare ((fl c.k).foldl wo c) = true then 0 else 2 by unfold ckC; rw [if_neg hf])
    have cF := hide (fields_any c.k (w.alloc (.cells c.row 26)))
    have hlen := fl_len c.k
    have hfl := fl_at c.k
    have BB := hide isBare_any
    have WW := hide without_any
    obtain ⟨l, hl⟩ : ∃ l, l = fl c.k := ⟨_, rfl⟩
    rw [← hl] at HC cF hlen hfl
    have B0 := hide b0
    have H0 := hide h0
    generalize c.f = f at *
    generalize c.k = k at *
    clear b0 h0 hl
    generalize hR : c.row = R at *
    have HR := hide hR
    clear hR
    go_enter Tryd.func15, Tryd.ntmps15
    go_wp2_with fail
    refine (unhide cF).mono ?_
    rintro e w1 ⟨ao, cc, rfl, hd, ho, b1⟩
    rw [z0] at ho b1
    have HD := hide hd
    have HO := hide ho
    have HW := hide (show w1.heap[w.heap.size]? = some (.cells R 26 (0, 0)) from (b1.block _ (by omega)).trans (unhide H0))
    have HB := hide ((unhide B0).trans (b1.mono (by omega)))
    clear hd ho b1 cF
    go_wp2_with fail
    go_loopw [12] (fun i wr => ∃ (j : Nat), j ≤ l.length ∧ i = .int .i64 (j : Int) ∧ wr.heap[w.heap.size]? = some (.cells ((l.take j).foldl wo c).row 26 (0, 0)) ∧ Fd wr ao l ∧ Below w.heap.size w wr) (fun i _ => l.length - (intOf i).toNat)
    case atStart => exact ⟨0, by omega, rfl, by rw [unhide HW, ← unhide HR]; rfl, unhide HD, unhide HB⟩
    case round =>
      obtain ⟨j, hj, rfl, hw, hd, hb⟩ := hrel
      clear HW HD HB
      by_cases hlt : j < l.length
      · obtain ⟨b, i1, i2⟩ := hd.idx l.length cc rfl hlt (j : Int) rfl
        have hq := hfl j hlt
        have hst := hide (foldl_next wo c l j (0 : Int) hlt)
        generalize l[j]?.getD 0 = F at *
        have cW := hide (without_any ((l.take j).foldl wo c) F hq wr)
        generalize (l.take j).foldl wo c = C at *
        have HW := hide hw
        have HD := hide hd
        have HB := hide hb
        clear hw hd hb hq
        go_wp2_with (with_reducible show wpList Tryd.prog _ _ (Oper.mk _ (Op.load 26 _) _ _ _ none :: _) _ _; refine wpList_loadC rfl (.tmp 1) rfl w.heap.size C (by simp [Act.eval, Act.put]) (unhide HW) ?_)
        refine (unhide cW).mono ?_
        rintro e w3 ⟨rfl, b3⟩
        have HW3 := hide ((b3.block _ (by have := (Array.getElem?_eq_some_iff.1 (unhide HW)).1; exact this)).trans (unhide HW))
        have HD3 := hide ((unhide HD).later b3)
        have HB3 := hide ((unhide HB).trans (b3.mono (unhide HB).size))
        clear b3 cW
        go_wp2_with (with_reducible show wpList Tryd.prog _ _ (Oper.mk _ (Op.store 26 _ _) _ _ _ none :: _) _ _; refine wpList_storeC rfl (.tmp 1) (.tmp 18) rfl w.heap.size (wo C F) C (by simp [Act.eval, Act.put]) (by simp [Act.eval, Act.put]) (unhide HW3) ?_; intro w4 h4 g4 z4; have H4 := hide h4; have G4 := hide g4; clear h4 g4)
        go_roundw
        case rel =>
          refine ⟨j + 1, by omega, by go_num, ?_, ?_, ?_⟩
          · rw [unhide hst]
            exact unhide H4
          · rcases (unhide HD3).lt with h0 | h0
            · exact .inl h0
            · exact (unhide HD3).keep fun k hk => (unhide G4).block k (h0 k hk) (by have := unhide HO k hk; omega)
          · exact (unhide HB3).trans ((unhide G4).below (by have := (unhide HB3).size; omega))
        case measure => simp [intOf]; omega
      · have hjn : j = l.length := by omega
        subst hjn
        rw [List.take_of_length_le (Nat.le_refl _)] at hw
        have cB := hide (isBare_any (l.foldl wo c) wr)
        generalize l.foldl wo c = C at *
        have HW := hide hw
        have HB := hide hb
        clear hw hd hb
        go_wp2_with (with_reducible show wpList Tryd.prog _ _ (Oper.mk _ (Op.load 26 _) _ _ _ none :: _) _ _; refine wpList_loadC rfl (.tmp 1) rfl w.heap.size C (by simp [Act.eval, Act.put]) (unhide HW) ?_)
        refine (unhide cB).mono ?_
        rintro e w3 ⟨rfl, b3⟩
        have HB3 := hide ((unhide HB).trans (b3.mono (unhide HB).size))
        clear b3 cB
        cases q : bare C
        · rw [q, if_neg (by simp)] at HC
          go_wp2_with fail
          go_ret
          exact ⟨by rw [unhide HC]; rfl, unhide HB3⟩
        · rw [q, if_pos rfl] at HC
          go_wp2_with fail
          go_ret
          exact ⟨by rw [unhide HC]; rfl, unhide HB3⟩

set_option maxHeartbeats 1000000 in
set_option maxRecDepth 100000 in
theorem about_any (k : Int) (w : World) : Calls Tryd.prog 19 #[.int .u8 k] w fun e w' => e = .returned (.bool (abt k)) ∧ w' = w := by
  unfold abt
  cases h23 : (k == 23)
  rotate_left
  · go_enter Tryd.func19, Tryd.ntmps19
    go_wp2_with fail
    go_ret
    exact ⟨rfl, rfl⟩
  cases h24 : (k == 24)
  rotate_left
  · go_enter Tryd.func19, Tryd.ntmps19
    go_wp2_with fail
    go_ret
    exact ⟨rfl, rfl⟩
  cases h25 : (k == 25)
  rotate_left
  · go_enter Tryd.func19, Tryd.ntmps19
    go_wp2_with fail
    go_ret
    exact ⟨rfl, rfl⟩
  cases h26 : (k == 26)
  rotate_left
  · go_enter Tryd.func19, Tryd.ntmps19
    go_wp2_with fail
    go_ret
    exact ⟨rfl, rfl⟩
  cases h28 : (k == 28)
  · go_enter Tryd.func19, Tryd.ntmps19
    go_wp2_with fail
    go_ret
    exact ⟨rfl, rfl⟩
  · go_enter Tryd.func19, Tryd.ntmps19
    go_wp2_with fail
    go_ret
    exact ⟨rfl, rfl⟩

end Go.Proofs.YtpidlfifipgadaaDoor
