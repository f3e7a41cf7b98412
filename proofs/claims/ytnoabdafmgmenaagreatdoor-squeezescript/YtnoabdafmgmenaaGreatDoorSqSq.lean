/-
  What Squeeze of package squeeze answers: the bytes squeezed, and the number behind. It writes nothing that was there. Conditions: at most 10,000 bytes, in pieces of at most 2,000.
-/
import Derived.Test.YtnoabdafmgmenaaGreatDoorSqChunk
namespace Go.Proofs.YtnoabdafmgmenaaGreatDoor
open Go.RowKit Go.Shelf
set_option linter.unusedVariables false
set_option linter.unusedSimpArgs false
attribute [local go_sem] Oper.semAt_some

set_option maxHeartbeats 400000 in
theorem isMost_any (n : Int) (w : World) :
    Calls Tryz.prog 17 #[.int .i64 n] w fun e w' => e = .returned (.bool (decide (1 ≤ n ∧ n ≤ 16777215))) ∧ w' = w := by
  by_cases h1 : 1 ≤ n
  · by_cases h2 : n ≤ 16777215
    · go_enter Tryz.func17, Tryz.ntmps17
      go_wp2
      go_ret
      exact ⟨by simp [h1, h2], rfl⟩
    · have h3 : decide (n ≤ 16777215) = false := by simpa using h2
      go_enter Tryz.func17, Tryz.ntmps17
      go_wp2
      go_ret
      exact ⟨by simp, rfl⟩
  · have h3 : decide (1 ≤ n) = false := by simpa using h1
    go_enter Tryz.func17, Tryz.ntmps17
    go_wp2
    go_ret
    exact ⟨by simp, rfl⟩

/-- A row of the call's own abides the turn of a block that is no cells. -/
theorem mine_own {B : Nat} {W W' : World} {row : Option Nat} {ao : Option Addr} {n c : Nat} {bs : List Int} (h : Mine B W ao n c bs) (hg : W.grownBy W' row) (hr : ∀ r, row = some r → ∃ o : Obj, W.heap[r]? = some o ∧ o.isCells = false) : Mine B W' ao n c bs := by
  refine ⟨h.len, ⟨h.own.1, ?_⟩, h.byt⟩
  rcases h.own.2 with hv | ⟨g, cap, cur, hv, hgB, hh, r⟩
  · exact .inl hv
  · refine .inr ⟨g, cap, cur, hv, hgB, ?_, r⟩
    rw [hg.block g (Array.getElem?_eq_some_iff.1 hh).1 (fun e => by
      obtain ⟨o, ho, hc⟩ := hr g e.symm
      rw [hh] at ho
      cases ho
      cases hc)]
    exact hh
theorem mine_cells {B : Nat} {W : World} {ao : Option Addr} {n c : Nat} {bs : List Int} (h : Mine B W ao n c bs) {k : Nat} (hk : ob ao k) : ∃ o : Obj, W.heap[k]? = some o ∧ o.isCells = true := by
  rcases h.own.2 with ⟨hv, _⟩ | ⟨g, cap, cur, hv, hgB, hh, r⟩
  · simp only [Value.slice.injEq] at hv
    obtain ⟨rfl, _⟩ := hv
    exact absurd hk ob_none
  · simp only [Value.slice.injEq] at hv
    obtain ⟨rfl, _⟩ := hv
    obtain ⟨a, e, rfl⟩ := hk
    cases e
    exact ⟨_, hh, rfl⟩
theorem boxed_own {W W' : World} {row : Option Nat} {B : Nat} {t : TypeId} {v : Value} (h : Boxed W B t v) (hg : W.grownBy W' row) (hr : ∀ r, row = some r → ∃ o : Obj, W.heap[r]? = some o ∧ o.isCells = false) : Boxed W' B t v :=
  h.kept hg fun e => by
    obtain ⟨o, ho, hc⟩ := hr B e.symm
    rw [show W.heap[B]? = _ from h] at ho
    cases ho
    cases hc

theorem boxed_other {W : World} {B b : Nat} {t : TypeId} {v : Value} (h : Boxed W B t v) (hne : B ≠ b) (u : Value) : Boxed (W.setCell ⟨b, 0, none⟩ u) B t v := by
  unfold Boxed
  rw [heap_setCell_other W ⟨b, 0, none⟩ B u hne]
  exact h
theorem kq_t {b1 b2 : Nat} {A B C : World} (h : Kq b1 b2 A B) (k : Kq b1 b2 B C) : Kq b1 b2 A C := ⟨k.1.trans h.1, k.2.trans h.2⟩
theorem kq_b {b1 b2 n0 : Nat} (h1 : b1 < n0) (h2 : b2 < n0) (W : World) (l : Nat) (o o' : Obj) (hl : n0 ≤ l) (h : W.heap[l]? = some o) (_ : o.isCells = false) (_ : o.isWalk = false) : Kq b1 b2 W (W.putObj l o') :=
  ⟨World.putObj_heap_other (by omega), World.putObj_heap_other (by omega)⟩
/-- The piece number x is a slice that holds its bytes. -/
theorem piece_at (ao : Option Addr) (n c M : Nat) (bs : List Int) (x : Nat) (w : World) (h : Bs w ao n c bs) (hn : 0 < n) :
    ∃ pa e, encC ao n M x = .slice pa e e ∧ Bs w pa e e (pc M bs x) ∧ (e ≤ n ∧ e ≤ M) ∧ ∀ k, ob pa k → k < w.heap.size := by
  have hl := h.len
  obtain ⟨b, off, rfl, hc⟩ := h.at'.resolve_left (by omega)
  have hb : b < w.heap.size := World.block_lt_of_cell? w _ (hc 0 hn)
  refine ⟨_, _, rfl, ⟨?_, Nat.le_refl _, by have := h.max; have := h.le; omega, (fun q => by cases q), (h.byt.drop _).take _, ?_⟩, by omega, fun k hk => ?_⟩
  · rw [pc_len, hl]
  · by_cases h0 : min M (n - x * M) = 0
    · exact .inl h0
    · right
      refine ⟨b, off + x * M, by simp [Addr.add_lit], fun i hi => ?_⟩
      have := hc (x * M + i) (by omega)
      rw [Nat.add_assoc, this]
      simp only [pc, List.getD_eq_getElem?_getD, List.getElem?_take, List.getElem?_drop]
      rw [if_pos (by omega)]
  · obtain ⟨a, ha, rfl⟩ := hk
    simp [Addr.add_lit] at ha
    subst ha
    exact hb

/-- Between two rounds: the pieces of these numbers are put. -/
structure Isq (w : World) (B : Nat) (T : Int) (M : Nat) (bs : List Int) (q : Int) (pre : List Nat) (W : World) : Prop where
  out : ∃ oo oc, Boxed W (B + 1 + 1) 31 (.slice oo (sqz T M bs q pre).1.length oc) ∧ Mine (B + 5) W oo (sqz T M bs q pre).1.length oc (sqz T M bs q pre).1
  seq : Boxed W B 5 (.int .u8 (sqz T M bs q pre).2)
  thr : Boxed W (B + 1) 3 (.int .i64 T)
  bel : Below B w W
  siz : B + 5 ≤ W.heap.size
theorem Isq.own {w : World} {B : Nat} {T : Int} {M : Nat} {bs : List Int} {q : Int} (hB : B ≤ w.heap.size) : OwnFrom (B + 5) (Isq w B T M bs q) := by
  intro s W W' row hs hg hr
  have hr' : ∀ r, row = some r → ∃ o : Obj, W.heap[r]? = some o ∧ o.isCells = false := fun r e => (hr r e).2
  obtain ⟨oo, oc, h1, h2⟩ := hs.out
  have hsz := hs.siz
  refine ⟨⟨oo, oc, boxed_own h1 hg hr', mine_own h2 hg hr'⟩, boxed_own hs.seq hg hr', boxed_own hs.thr hg hr', hs.bel.grown hg (by omega) (fun k e => by have := (hr k e).1; omega), Nat.le_trans hsz hg.size⟩

/-- Behind Squeeze. -/
def OutSq (w : World) (r : List Int × Int × Int) (e : Ending) (w' : World) : Prop :=
  ∃ oo on oc, e = .returned (.tuple #[.slice oo on oc, .int .u8 r.2.1, .int .i64 r.2.2]) ∧ Mine w.heap.size w' oo on oc r.1 ∧ Below w.heap.size w w'

set_option maxRecDepth 100000 in
set_option maxHeartbeats 4000000 in
theorem squeeze_ok (ao : Option Addr) (n c : Nat) (bs : List Int) (q T : Int) (M : Nat) (w : World) (h : Bs w ao n c bs) (hn : n ≤ 10000) (hMn : M ≤ 2000 ∨ n ≤ 2000) (q0 : 0 ≤ q) (q1 : q ≤ 255) (m1 : 1 ≤ M) (m2 : M ≤ 16777215) (t0 : 0 ≤ T) (t1 : T ≤ 16777215) :
    Calls Tryz.prog 16 #[.slice ao n c, .int .u8 q, .int .i64 (M : Int), .int .i64 T] w fun e w' => OutSq w ((sqA T M bs q).1, (sqA T M bs q).2, 0) e w' := by
  have cm := hide (fun w => isMost_any (M : Int) w)
  rw [show decide (1 ≤ (M : Int) ∧ (M : Int) ≤ 16777215) = true by simp; omega] at cm
  have HB := hide h
  have hle := h.le
  have hmx := h.max
  have HL := hide h.len
  clear h
  refine (callsIn_wide (n := 8)).1 ?_
  refine callsIn_of_wp_marks Tryz.func16 rfl trivial ?_ rfl
  simp only [Tryz.ntmps16, List.size_toArray, List.length_cons, List.length_nil, Nat.reduceAdd, Nat.reduceSub, Array.replicate_succ, Array.replicate_zero, List.push_toArray, List.append_toArray, List.nil_append, List.cons_append]
  gi_wp2_with (first
    | (refine ⟨trivial, ?_⟩; gi_at_call 17; refine (callsIn_wide.2 (unhide cm _)).mono ?_; rintro e w' ⟨rfl, rfl⟩)
    | (refine ⟨trivial, ?_⟩; gi_at_call 24; refine (chunk_in _ _ _ _ _ (by omega) _).mono ?_; rintro e w' ⟨rfl, rfl⟩))
  obtain ⟨W0, hW0⟩ : ∃ W0, W0 = (((((w.alloc (.cells #[.int .u8 q] 5)).alloc (.cells #[.int .i64 T] 3)).alloc (.cells #[.slice none 0 0] 31)).alloc (.cells #[.slice ao n c] 31)).alloc (.cells #[.int .i64 (M : Int)] 3)) := ⟨_, rfl⟩
  rw [← hW0]
  have bx0 : Boxed W0 w.heap.size 5 (.int .u8 q) := by rw [hW0]; exact ((((Boxed.new w _ _).alloc _).alloc _).alloc _).alloc _
  have bx1 : Boxed W0 (w.heap.size + 1) 3 (.int .i64 T) := by
    have := Boxed.new (w.alloc (.cells #[.int .u8 q] 5)) 3 (.int .i64 T)
    rw [World.size_alloc] at this
    rw [hW0]; exact ((this.alloc _).alloc _).alloc _
  have bx2 : Boxed W0 (w.heap.size + 1 + 1) 31 (.slice none 0 0) := by
    have := Boxed.new ((w.alloc (.cells #[.int .u8 q] 5)).alloc (.cells #[.int .i64 T] 3)) 31 (.slice none 0 0)
    rw [World.size_alloc, World.size_alloc] at this
    rw [hW0]; exact (this.alloc _).alloc _
  have bx3 : Boxed W0 (w.heap.size + 1 + 1 + 1) 31 (.slice ao n c) := by
    have := Boxed.new (((w.alloc (.cells #[.int .u8 q] 5)).alloc (.cells #[.int .i64 T] 3)).alloc (.cells #[.slice none 0 0] 31)) 31 (.slice ao n c)
    rw [World.size_alloc, World.size_alloc, World.size_alloc] at this
    rw [hW0]; exact this.alloc _
  have bx4 : Boxed W0 (w.heap.size + 1 + 1 + 1 + 1) 3 (.int .i64 (M : Int)) := by
    have := Boxed.new ((((w.alloc (.cells #[.int .u8 q] 5)).alloc (.cells #[.int .i64 T] 3)).alloc (.cells #[.slice none 0 0] 31)).alloc (.cells #[.slice ao n c] 31)) 3 (.int .i64 (M : Int))
    rw [World.size_alloc, World.size_alloc, World.size_alloc, World.size_alloc] at this
    rw [hW0]; exact this
  have hs0 : W0.heap.size = w.heap.size + 5 := by rw [hW0]; simp
  have hB0 : Below w.heap.size w W0 := by rw [hW0]; exact ((((below_alloc w _).alloc (by simp) _).alloc (by simp; omega) _).alloc (by simp; omega) _).alloc (by simp; omega) _
  clear hW0
  have hI0 : Isq w w.heap.size T M bs q [] W0 := ⟨⟨none, 0, bx2, Mine.nought _ _⟩, bx0, bx1, hB0, by omega⟩
  have HI0 := hide hI0
  clear bx0 bx1 bx2 hB0 hI0
  refine wpIn_rangeFunc_ownG rfl (by omega) (gf := 30) (lb := #[.pointer (some ⟨w.heap.size + 1 + 1 + 1, 0, none⟩), .pointer (some ⟨w.heap.size + 1 + 1 + 1 + 1, 0, none⟩)]) rfl trivial (enters_of Tryz.func30 (by kernel_rfl) rfl)
    (chunk_stops 7 (by omega) _ _ ao n c M bs m1 m2 (unhide HL) (by omega) hle hmx W0 bx3 bx4) (fun h k => kq_t h k) (kq_b (by omega) (by omega)) (Below.refl _ _) (fun _ => rfl)
    (Isq w w.heap.size T M bs q) (fun _ _ _ => False) (by rw [hs0]; exact Isq.own (Nat.le_refl _)) (fun _ _ _ _ _ hs _ _ => hs) (unhide HI0)
    (fun x => { tmps := #[.slice ao n c, .int .u8 q, .int .i64 (M : Int), .int .i64 T, undef, .pointer (some ⟨w.heap.size, 0, none⟩), undef, .pointer (some ⟨w.heap.size + 1, 0, none⟩), .slice none 0 0, .int .u8 0, .int .i64 0, .pointer (some ⟨w.heap.size + 1 + 1, 0, none⟩), encC ao n M x, .int .i64 (M : Int), .bool true, .bool false, .bool false, .int .i64 T, .bool (decide (T < 0)), .bool (decide (T < 0)), .bool (decide (T < 0)), .int .i64 T, .bool (decide (16777215 < T)), .bool (decide (T < 0) || decide (16777215 < T)), .slice ao n c, .int .i64 (M : Int), .func (.func 30) #[] #[.pointer (some ⟨w.heap.size + 1 + 1 + 1, 0, none⟩), .pointer (some ⟨w.heap.size + 1 + 1 + 1 + 1, 0, none⟩)], encC ao n M x, undef, undef, undef, undef, undef, undef, undef, undef, undef], defers := [] }) ?assign ?body ?done ?stop
  case assign =>
    intro l x W K hK
    gi_wp2
    exact hK
  case body =>
    rintro l pre x W hI hlt
    obtain ⟨pa, e, hpe, hpb, hpn, hpo⟩ := piece_at ao n c M bs x w (unhide HB) (by have := pcn_le m1 bs; rw [unhide HL] at this; omega)
    rw [hpe]
    obtain ⟨⟨oo, oc, h1, h2⟩, hseq, hthr, hbel, hsz⟩ := hI
    have hql := sqz_len T M bs q pre
    rw [unhide HL] at hql
    have hpl : pre.length ≤ 10000 := by have := pcn_le m1 bs; rw [unhide HL] at this; omega
    have hql2 : (sqz T M bs q pre).1.length ≤ 200000000 := Nat.le_trans hql (Nat.le_trans (Nat.mul_le_mul hpl (show 7 + n ≤ 10007 by omega)) (by omega))
    have hqq := sqz_q T M bs q q0 q1 pre
    have hsn := sqz_snoc T M bs q pre x
    have PB : Bs W pa e e (pc M bs x) := hpb.later hbel
    have AP : Apart W pa oo := fun k hk => ⟨fun z => by have := (h2.ob z).1; have := hpo k hk; omega, by have := hpo k hk; have := hbel.size; omega⟩
    generalize sqz T M bs q pre = R at *
    obtain ⟨r1, r2⟩ := R
    simp only at h1 h2 hseq hql2 hqq hsn
    have cp := hide (putFrame_any (w.heap.size + 5) oo r1.length oc r1 pa e e (pc M bs x) r2 T W h2 hsz PB (by omega) AP hqq.1 hqq.2 (by omega))
    have z2 := h1.cell
    have z0 := hseq.cell
    have z1 := hthr.cell
    have H1 := hide h1
    have H2 := hide h2
    have HS := hide hseq
    have HT := hide hthr
    have HBL := hide hbel
    have hnb : ∀ k, k < w.heap.size + 5 → ¬ ob oo k := fun k hk z => by have := (h2.ob z).1; omega
    have HNB := hide hnb
    have HSN := hide hsn
    have HCE := hide (fun k (hk : ob oo k) => mine_cells h2 hk)
    clear hql hlt hpe hpb hpo PB AP h1 h2 hseq hthr hbel hsn hnb HI0
    generalize sqF T r2 (pc M bs x) = F at *
    generalize hRL : r1.length = RL at *
    have hd : 1 ≤ 8 - 1 - 1 := by omega
    gi_wp2_with (refine ⟨trivial, ?_⟩; gi_at_call 25; refine (CallsIn.inRound l (callsIn_wide.2 (unhide cp))).mono ?_; rintro e' W1 ⟨o1, c1, rfl, mm, ff⟩; have y2 : Boxed W1 (w.heap.size + 1 + 1) 31 (.slice oo RL oc) := (ff.block _ (by omega) (unhide HNB _ (by omega))).trans (unhide H1); have y0 : Boxed W1 w.heap.size 5 (.int .u8 r2) := (ff.block _ (by omega) (unhide HNB _ (by omega))).trans (unhide HS); have k2 := y2.cell; have k2f := y2.frozen; have y0' := boxed_other y0 (show w.heap.size ≠ w.heap.size + 1 + 1 by omega) (.slice o1 (RL + F.length) c1); have k0 := y0'.cell; have k0f := y0'.frozen; have MM := hide mm; have FF := hide ff; have Y2 := hide y2; have Y0 := hide y0'; clear mm ff y2 y0 y0')
    have mm := unhide MM
    have ff := unhide FF
    have hz1 := ff.size
    have hoo : ∀ k, ob o1 k → w.heap.size + 5 ≤ k := fun k hk => (mm.ob hk).1
    have e2 : Boxed ((W1.setCell ⟨w.heap.size + 1 + 1, 0, none⟩ (.slice o1 (RL + F.length) c1)).setCell ⟨w.heap.size, 0, none⟩ (.int .u8 ((r2 + 1) % 256))) (w.heap.size + 1 + 1) 31 (.slice o1 (RL + F.length) c1) := boxed_other ((unhide Y2).set _) (by omega) _
    have e0 := (unhide Y0).set (.int .u8 ((r2 + 1) % 256))
    have hblk : ∀ k, k < W.heap.size → ¬ ob oo k → k ≠ w.heap.size → k ≠ w.heap.size + 1 + 1 → ((W1.setCell ⟨w.heap.size + 1 + 1, 0, none⟩ (.slice o1 (RL + F.length) c1)).setCell ⟨w.heap.size, 0, none⟩ (.int .u8 ((r2 + 1) % 256))).heap[k]? = W.heap[k]? := fun k hk hn h0 h2 => by
      rw [heap_setCell_other _ _ k _ h0, heap_setCell_other _ _ k _ h2, ff.block k hk hn]
    refine ⟨⟨by simp; exact hz1, fun k o hk ho hc => ?_⟩, ⟨hblk _ (by omega) (unhide HNB _ (by omega)) (by omega) (by omega), hblk _ (by omega) (unhide HNB _ (by omega)) (by omega) (by omega)⟩, ?_⟩
    · rw [hblk k (Array.getElem?_eq_some_iff.1 ho).1 (fun z => by
        obtain ⟨o', ho', hc'⟩ := unhide HCE k z
        rw [ho] at ho'
        cases ho'
        rw [hc] at hc'
        cases hc') (by omega) (by omega)]
      exact ho
    · refine ⟨⟨o1, c1, ?_, ?_⟩, ?_, ?_, ?_, ?_⟩
      · rw [unhide HSN]
        simp only [List.length_append, hRL]
        exact e2
      · rw [unhide HSN]
        simp only [List.length_append, hRL]
        exact mm.keepB fun k hk => by
          have := hoo k hk
          rw [heap_setCell_other _ _ k _ (show k ≠ w.heap.size by omega), heap_setCell_other _ _ k _ (show k ≠ w.heap.size + 1 + 1 by omega)]
      · rw [unhide HSN]
        exact e0
      · exact (hblk _ (by omega) (unhide HNB _ (by omega)) (by omega) (by omega)).trans (unhide HT)
      · refine (unhide HBL).trans ⟨ff.os, ff.tape, ff.output, by simp; exact hz1, fun k hk => hblk k (by omega) (unhide HNB _ (by omega)) (by omega) (by omega)⟩
      · simp
        omega
  case done =>
    rintro D ys W hD rfl ⟨⟨oo, oc, h1, h2⟩, hseq, hthr, hbel, hsz⟩ hK
    have z2 := h1.cell
    have z0 := hseq.cell
    have HA := hide (show sqA T M bs q = sqz T M bs q (List.range (pcn M bs)) from rfl)
    generalize sqz T M bs q (List.range (pcn M bs)) = R at *
    obtain ⟨r1, r2⟩ := R
    simp only at h1 h2 hseq z2 z0
    have H2 := hide h2
    have HBL := hide hbel
    have HKK := hide hK
    clear h1 h2 hseq hthr hbel hK HI0
    generalize hRL : r1.length = RL at *
    gi_wp2
    gi_big_quiet_th (fail)
    gi_wp2
    have hK' : (W.drewN nq).heap[D]? = some (.deferred (some [])) := unhide HKK
    refine ⟨by simp, .inl ⟨_, _, rfl, run_takeDeferred hK', ?_⟩⟩
    refine ⟨_, results_tmp3 rfl _ _ _, ?_⟩
    rw [unhide HA]
    refine ⟨oo, RL, oc, rfl, ?_, ?_⟩
    · exact (mine_own ((unhide H2).later (w' := W.drewN nq) ⟨rfl, rfl, rfl, Nat.le_refl _, fun _ _ => rfl⟩) (grownBy_putObj' _ D (.deferred none)) (fun r e => by cases e; exact ⟨_, hK', rfl⟩)).mono (by omega)
    · exact ((unhide HBL).trans (c := W.drewN nq) ⟨rfl, rfl, rfl, Nat.le_refl _, fun _ _ => rfl⟩).trans (belowK_b (w := w) (Nat.le_refl _) (W.drewN nq) D _ _ (by omega) hK' rfl rfl)
  case stop =>
    rintro D cc pre W _ _ hf _
    exact hf.elim

set_option maxHeartbeats 1000000 in
theorem squeeze_bad (v : Value) (q M T : Int) (w : World) (hb : M < 1 ∨ 16777215 < M ∨ T < 0 ∨ 16777215 < T) :
    Calls Tryz.prog 16 #[v, .int .u8 q, .int .i64 M, .int .i64 T] w fun e w' => OutSq w ([], 0, 2) e w' := by
  have cm := hide (fun w => isMost_any M w)
  by_cases hm : 1 ≤ M ∧ M ≤ 16777215
  · rw [show decide (1 ≤ M ∧ M ≤ 16777215) = true by simpa using hm] at cm
    have b2 := (below_alloc w (.cells #[.int .u8 q] 5)).alloc (by simp) (.cells #[.int .i64 T] 3)
    by_cases ht : T < 0
    · clear hb hm
      go_enter Tryz.func16, Tryz.ntmps16
      go_wp2_with (go_at_call 17; refine same_world (unhide cm _) ?_)
      go_ret3
      exact ⟨none, 0, 0, rfl, Mine.nought _ _, b2⟩
    · have ht2 : 16777215 < T := by omega
      clear hb hm
      go_enter Tryz.func16, Tryz.ntmps16
      go_wp2_with (go_at_call 17; refine same_world (unhide cm _) ?_)
      go_ret3
      exact ⟨none, 0, 0, rfl, Mine.nought _ _, b2⟩
  · rw [show decide (1 ≤ M ∧ M ≤ 16777215) = false by simpa using hm] at cm
    have b2 := (below_alloc w (.cells #[.int .u8 q] 5)).alloc (by simp) (.cells #[.int .i64 T] 3)
    clear hb hm
    go_enter Tryz.func16, Tryz.ntmps16
    go_wp2_with (go_at_call 17; refine same_world (unhide cm _) ?_)
    go_ret3
    exact ⟨none, 0, 0, rfl, Mine.nought _ _, b2⟩

theorem squeeze_any (ao : Option Addr) (n c : Nat) (bs : List Int) (q M T : Int) (w : World) (h : Bs w ao n c bs) (hn : n ≤ 1000) (q0 : 0 ≤ q) (q1 : q ≤ 255) :
    Calls Tryz.prog 16 #[.slice ao n c, .int .u8 q, .int .i64 M, .int .i64 T] w fun e w' => OutSq w (sqR M T bs q) e w' := by
  unfold sqR
  by_cases hb : M < 1 ∨ 16777215 < M ∨ T < 0 ∨ 16777215 < T
  · rw [if_pos hb]
    exact squeeze_bad _ q M T w hb
  · rw [if_neg hb]
    obtain ⟨m, rfl⟩ := Int.eq_ofNat_of_zero_le (show 0 ≤ M by omega)
    exact squeeze_ok ao n c bs q T m w h (by omega) (.inr (by omega)) q0 q1 (by omega) (by omega) (by omega) (by omega)
end Go.Proofs.YtnoabdafmgmenaaGreatDoor
