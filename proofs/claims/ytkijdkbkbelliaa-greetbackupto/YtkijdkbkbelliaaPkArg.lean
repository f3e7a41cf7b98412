/-
  Packets that came in: what lies in their cells, and their sizes by the bulk of what was read. Conditions: none.
-/
import Derived.Test.YtkijdkbkbelliaaRows
import Derived.Test.YtkijdkbkbelliaaGpAt
import Derived.Test.YtkijdkbkbelliaaGpBy
import Derived.Test.YtkijdkbkbelliaaGpWrAt
import Derived.WideShapes
import Derived.ChangeArms
import Derived.ChangeSame
import Derived.Deep.Slices
import Derived.OpenShut
import Derived.ProofKit
namespace Go.Proofs.Ytkijdkbkbelliaa
open Go.ChangeShapes Go.WideShapes Go.ChangeAt Go.RowKit
set_option linter.unusedVariables false
set_option linter.unusedSimpArgs false

/-- What is read has a bulk of one at least; the bulks of a row of values. -/
theorem blk_pos {H : Type} : ∀ d : DataW H, 1 ≤ Rows.uptoBulk d
  | .lit (.string _) => by simp only [Rows.uptoBulk]; omega
  | .lit (.int _ _) | .lit (.bool _) | .lit (.float _ _) | .lit .nil | .nil | .held _ => by simp [Rows.uptoBulk]
  | .ptr _ | .slice _ _ | .agg _ | .iface _ _ | .map _ => by simp only [Rows.uptoBulk]; omega
theorem blk_len {H : Type} : ∀ l : List (DataW H), l.length ≤ Rows.uptoBulkAll l
  | [] => Nat.zero_le _
  | d :: l => by
    have a := blk_pos d
    have b := blk_len l
    simp only [Rows.uptoBulkAll, List.length_cons]
    omega
theorem blk_two {H : Type} (r : List (DataW H)) : ∀ l : List (DataW H), Rows.uptoBulkAll (l ++ r) = Rows.uptoBulkAll l + Rows.uptoBulkAll r
  | [] => by simp only [List.nil_append, Rows.uptoBulkAll, Nat.zero_add]
  | d :: l => by
    have i := blk_two r l
    simp only [List.cons_append, Rows.uptoBulkAll]
    omega

theorem letters (s : ByteArray) : s.data.toList.length = s.size := Array.length_toList

theorem list2 {α : Type} {l : List α} (h : l.length = 2) : ∃ c0 c1, l = [c0, c1] := by
  match l, h with
  | [c0, c1], _ => exact ⟨c0, c1, rfl⟩
theorem list6 {α : Type} {l : List α} (h : l.length = 6) : ∃ c0 c1 c2 c3 c4 c5, l = [c0, c1, c2, c3, c4, c5] := by
  match l, h with
  | [c0, c1, c2, c3, c4, c5], _ => exact ⟨c0, c1, c2, c3, c4, c5, rfl⟩
theorem list7 {α : Type} {l : List α} (h : l.length = 7) : ∃ c0 c1 c2 c3 c4 c5 c6, l = [c0, c1, c2, c3, c4, c5, c6] := by
  match l, h with
  | [c0, c1, c2, c3, c4, c5, c6], _ => exact ⟨c0, c1, c2, c3, c4, c5, c6, rfl⟩
theorem list8 {α : Type} {l : List α} (h : l.length = 8) : ∃ c0 c1 c2 c3 c4 c5 c6 c7, l = [c0, c1, c2, c3, c4, c5, c6, c7] := by
  match l, h with
  | [c0, c1, c2, c3, c4, c5, c6, c7], _ => exact ⟨c0, c1, c2, c3, c4, c5, c6, c7, rfl⟩

section
variable {H : Type} {enc : TypeId × Value → H} {W : World} {base fuel : Nat} {cs : List Value} {x : DataW H × List MemPlace}

theorem str_in (h : DataW.trod enc Try.prog W base (fun _ => true) true fuel 9 cs = some x) : ∃ s : ByteArray, cs = [.string s] ∧ s.size + 1 = Rows.uptoBulk x.1 := by
  obtain ⟨s, e, rfl, _⟩ := DataW.trod_string Try.underlying9 h
  exact ⟨s, e, by simp only [Rows.uptoBulk, letters]⟩

theorem bs_in (h : DataW.trod enc Try.prog W base (fun _ => true) true fuel 22 cs = some x) : ∃ (ao : Option Addr) (n c : Nat) (l : List Int), cs = [.slice ao n c] ∧ Bs W ao n c l ∧ n ≤ Rows.uptoBulk x.1 := by
  rcases open_ints Try.underlying22 Try.underlying5 (by kernel_rfl) h with ⟨hv, _⟩ | ⟨a', l', c', zs, hv, _, hl', hm', hz, rfl, hcl, hwz⟩
  · exact ⟨none, 0, 0, [], hv, Bs.nought W, Nat.zero_le _⟩
  · simp only [if_true] at hz
    refine ⟨some a', l', c', zs.take l', hv, bs_of_row (.inr ⟨a', rfl, hl', hm', hz, hcl, hwz⟩), ?_⟩
    have q := blk_len (H := H) (lits .u8 (zs.take l'))
    simp only [Rows.uptoBulk]
    have e : (lits (H := H) .u8 (zs.take l')).length = l' := by simp [lits, hz]; omega
    omega

theorem bulk_ge (f : Nat → DataW H) : ∀ (n : Nat) (g : Nat → Nat), (∀ i, i < n → g i ≤ Rows.uptoBulk (f i)) → ((List.range n).map g).sum ≤ Rows.uptoBulkAll ((List.range n).map f)
  | 0, g, h => by simp [Rows.uptoBulkAll]
  | n + 1, g, h => by
    rw [List.range_succ, List.map_append, List.map_append, blk_two, List.sum_append]
    have i := bulk_ge f n g (fun i hi => h i (by omega))
    have q := h n (by omega)
    simp only [List.map_cons, List.map_nil, List.sum_cons, List.sum_nil, Rows.uptoBulkAll]
    omega

theorem aB_sum (k : Nat) : ∀ l : List At, (aB l).length ≤ 20 * (l.map fun a => a.n.size + a.v.size + 1).sum
  | [] => by simp [aB]
  | a :: l => by
    have i := aB_sum k l
    have e : aB (a :: l) = ((form a.n.size ++ nums a.n) ++ (form a.v.size ++ nums a.v)) ++ aB l := by simp [aB]
    have f1 := form_length_le (a.n.size : Int)
    have f2 := form_length_le (a.v.size : Int)
    have g1 := nums_length a.n
    have g2 := nums_length a.v
    rw [e]
    simp only [List.length_append, List.map_cons, List.sum_cons]
    omega

theorem as_in (h : DataW.trod enc Try.prog W base (fun _ => true) true fuel 65 cs = some x) : ∃ (ao : Option Addr) (n c : Nat) (l : List At), cs = [.slice ao n c] ∧ As W ao n c l ∧ (aB l).length ≤ 20 * Rows.uptoBulk x.1 := by
  have c2 : Try.prog.cellsOf 125 = 2 := by kernel_rfl
  have ct : Try.prog.cellsOf 9 = 1 := by kernel_rfl
  rcases Deep.open_slice Try.underlying65 h with ⟨hcs, _⟩ | ⟨ad, len, cap, m, n, D, Pl, hcs, hb, hl, hm, hmm, rfl, hel⟩
  · exact ⟨none, 0, 0, [], hcs, As.nought W, by simp [aB]⟩
  · simp only [if_true] at hmm
    subst hmm
    have each : ∀ i, i < len → ∃ p : At, W.cell? (ad.add (i * 2)) = some (.string p.n) ∧ W.cell? (ad.add (i * 2 + 1)) = some (.string p.v) ∧ p.n.size + p.v.size + 1 ≤ Rows.uptoBulk (D i) := by
      intro i hi
      obtain ⟨cs', h1, h2⟩ := hel i (by omega)
      rw [c2] at h1
      obtain ⟨_, hlen, hcell⟩ := World.cells?_some h1
      obtain ⟨y0, y1, k, hD, _, t0, t1⟩ := trod_struct2 Try.underlying125 h2
      simp only [ct] at t0 t1
      obtain ⟨z0, e0, q0⟩ := str_in t0
      obtain ⟨z1, e1, q1⟩ := str_in t1
      have hD' : D i = .agg [y0.1, y1.1] := congrArg Prod.fst hD
      match cs', hlen with
      | [u0, u1], _ =>
        simp at e0 e1
        subst e0 e1
        refine ⟨⟨z0, z1⟩, ?_, ?_, ?_⟩
        · have := hcell 0 (by omega); rw [Addr.add_add, Nat.add_zero] at this; exact this
        · have := hcell 1 (by omega); rw [Addr.add_add] at this; exact this
        · rw [hD']; simp only [Rows.uptoBulk, Rows.uptoBulkAll]; omega
    by_cases h0 : len = 0
    · subst h0
      unfold maxLen at hm
      exact ⟨_, _, _, [], hcs, ⟨rfl, hl, by omega, (fun e => by cases e), .inl rfl⟩, by simp [aB]⟩
    · obtain ⟨b, off, spot⟩ := ad
      have hspot : spot = none := by
        obtain ⟨p, k0, _⟩ := each 0 (by omega)
        simpa [Addr.add] using World.cell?_spot k0
      subst hspot
      refine ⟨_, _, _, (List.range len).map fun i => if hi : i < len then Classical.choose (each i hi) else ⟨⟨#[]⟩, ⟨#[]⟩⟩, hcs, ⟨?_, hl, by unfold maxLen at hm; omega, (fun e => by cases e), .inr ⟨b, off, rfl, fun i p hi => ?_⟩⟩, ?_⟩
      · simp
      · have hil : i < len := by have := (List.getElem?_eq_some_iff.1 hi).1; simpa using this
        rw [List.getElem?_map, List.getElem?_range hil] at hi
        simp only [Option.map_some, Option.some.injEq, dif_pos hil] at hi
        subst hi
        obtain ⟨g0, g1, _⟩ := Classical.choose_spec (each i hil)
        generalize Classical.choose (each i hil) = P at g0 g1 ⊢
        rw [Addr.add_lit] at g0 g1
        exact ⟨g0, by rw [Nat.add_assoc]; exact g1⟩
      · have q1 := aB_sum 0 ((List.range len).map fun i => if hi : i < len then Classical.choose (each i hi) else ⟨⟨#[]⟩, ⟨#[]⟩⟩)
        rw [List.map_map] at q1
        have q2 := bulk_ge D len ((fun a : At => a.n.size + a.v.size + 1) ∘ fun i => if hi : i < len then Classical.choose (each i hi) else ⟨⟨#[]⟩, ⟨#[]⟩⟩) (by
          intro i hi
          simp only [Function.comp, dif_pos hi]
          exact (Classical.choose_spec (each i hi)).2.2)
        simp only [Rows.uptoBulk]
        omega

theorem gr_in (h : DataW.trod enc Try.prog W base (fun _ => true) true fuel 64 cs = some x) : ∃ (go : Option Addr) (gn gc : Nat) (G : Gr), cs = [.string G.ve, .int .u32 G.th, .slice go gn gc, .int .u32 G.ca, .int .u8 G.ch, .int .u16 G.st, .string G.pl] ∧ Bs W go gn gc G.no ∧ GrK G ∧ G.ve.size + gn + G.pl.size ≤ 20 * Rows.uptoBulk x.1 := by
  have ks : Try.prog.cellsOf 9 = 1 := by kernel_rfl
  have kb : Try.prog.cellsOf 22 = 1 := by kernel_rfl
  have ka : Try.prog.cellsOf 65 = 1 := by kernel_rfl
  have ku32 : Try.prog.cellsOf 26 = 1 := by kernel_rfl
  have kc : Try.prog.cellsOf 27 = 1 := by kernel_rfl
  have ku8 : Try.prog.cellsOf 5 = 1 := by kernel_rfl
  have ku16 : Try.prog.cellsOf 29 = 1 := by kernel_rfl
  have cn : Try.prog.cellsOf 64 = 7 := by kernel_rfl
  obtain ⟨xs, n, _, rfl, hl, hlen, hf⟩ := DataW.trod_struct Try.underlying64 h
  rw [cn] at hl
  obtain ⟨u0, u1, u2, u3, u4, u5, u6, rfl⟩ := list7 hl
  obtain ⟨y0, y1, y2, y3, y4, y5, y6, rfl⟩ := list7 (show _ = 7 from hlen)
  · skip
    have t0 := hf 0 _ rfl
    have t1 := hf 1 _ rfl
    have t2 := hf 2 _ rfl
    have t3 := hf 3 _ rfl
    have t4 := hf 4 _ rfl
    have t5 := hf 5 _ rfl
    have t6 := hf 6 _ rfl
    simp [ks, kb, ka, ku32, kc, ku8, ku16] at t0 t1 t2 t3 t4 t5 t6
    obtain ⟨z0, e0, q0⟩ := str_in t0
    obtain ⟨z1, e1, d1, w1⟩ := DataW.trod_int Try.underlying26 t1
    have q1 := bounds_u32 w1
    obtain ⟨o2, n2, c2, l2, e2, m2, q2⟩ := bs_in t2
    obtain ⟨z3, e3, d3, w3⟩ := DataW.trod_int Try.underlying27 t3
    have q3 := bounds_u32 w3
    obtain ⟨z4, e4, d4, w4⟩ := DataW.trod_int Try.underlying5 t4
    have q4 := bounds_u8 w4
    obtain ⟨z5, e5, d5, w5⟩ := DataW.trod_int Try.underlying29 t5
    have q5 := bounds_u16 w5
    obtain ⟨z6, e6, q6⟩ := str_in t6
    simp at e0 e1 e2 e3 e4 e5 e6
    subst e0 e1 e2 e3 e4 e5 e6
    refine ⟨o2, n2, c2, ⟨z0, z1, l2, z3, z4, z5, z6⟩, rfl, m2, ⟨⟨by simp only; omega, by simp only; omega⟩, ⟨by simp only; omega, by simp only; omega⟩, ⟨by simp only; omega, by simp only; omega⟩, ⟨by simp only; omega, by simp only; omega⟩⟩, ?_⟩
    simp only [List.map_cons, List.map_nil, Rows.uptoBulk, Rows.uptoBulkAll]
    omega

theorem an_in (h : DataW.trod enc Try.prog W base (fun _ => true) true fuel 67 cs = some x) : ∃ (ro : Option Addr) (rn rc : Nat) (tt : Option Addr) (tn tc : Nat) (A : An), cs = [.int .u32 A.ca, .int .u32 A.mo, .int .u8 A.ch, .string A.us, .slice ro rn rc, .string A.sc, .string A.pl, .slice tt tn tc] ∧ Bs W ro rn rc A.re ∧ As W tt tn tc A.at' ∧ AnK A ∧ A.us.size + rn + A.sc.size + A.pl.size + (aB A.at').length ≤ 20 * Rows.uptoBulk x.1 := by
  have ks : Try.prog.cellsOf 9 = 1 := by kernel_rfl
  have kb : Try.prog.cellsOf 22 = 1 := by kernel_rfl
  have ka : Try.prog.cellsOf 65 = 1 := by kernel_rfl
  have ku32 : Try.prog.cellsOf 26 = 1 := by kernel_rfl
  have kc : Try.prog.cellsOf 27 = 1 := by kernel_rfl
  have ku8 : Try.prog.cellsOf 5 = 1 := by kernel_rfl
  have ku16 : Try.prog.cellsOf 29 = 1 := by kernel_rfl
  have cn : Try.prog.cellsOf 67 = 8 := by kernel_rfl
  obtain ⟨xs, n, _, rfl, hl, hlen, hf⟩ := DataW.trod_struct Try.underlying67 h
  rw [cn] at hl
  obtain ⟨u0, u1, u2, u3, u4, u5, u6, u7, rfl⟩ := list8 hl
  obtain ⟨y0, y1, y2, y3, y4, y5, y6, y7, rfl⟩ := list8 (show _ = 8 from hlen)
  · skip
    have t0 := hf 0 _ rfl
    have t1 := hf 1 _ rfl
    have t2 := hf 2 _ rfl
    have t3 := hf 3 _ rfl
    have t4 := hf 4 _ rfl
    have t5 := hf 5 _ rfl
    have t6 := hf 6 _ rfl
    have t7 := hf 7 _ rfl
    simp [ks, kb, ka, ku32, kc, ku8, ku16] at t0 t1 t2 t3 t4 t5 t6 t7
    obtain ⟨z0, e0, d0, w0⟩ := DataW.trod_int Try.underlying27 t0
    have q0 := bounds_u32 w0
    obtain ⟨z1, e1, d1, w1⟩ := DataW.trod_int Try.underlying26 t1
    have q1 := bounds_u32 w1
    obtain ⟨z2, e2, d2, w2⟩ := DataW.trod_int Try.underlying5 t2
    have q2 := bounds_u8 w2
    obtain ⟨z3, e3, q3⟩ := str_in t3
    obtain ⟨o4, n4, c4, l4, e4, m4, q4⟩ := bs_in t4
    obtain ⟨z5, e5, q5⟩ := str_in t5
    obtain ⟨z6, e6, q6⟩ := str_in t6
    obtain ⟨o7, n7, c7, l7, e7, m7, q7⟩ := as_in t7
    simp at e0 e1 e2 e3 e4 e5 e6 e7
    subst e0 e1 e2 e3 e4 e5 e6 e7
    refine ⟨o4, n4, c4, o7, n7, c7, ⟨z0, z1, z2, z3, l4, z5, z6, l7⟩, rfl, m4, m7, ⟨⟨by simp only; omega, by simp only; omega⟩, ⟨by simp only; omega, by simp only; omega⟩, ⟨by simp only; omega, by simp only; omega⟩⟩, ?_⟩
    simp only [List.map_cons, List.map_nil, Rows.uptoBulk, Rows.uptoBulkAll]
    omega

theorem sw_in (h : DataW.trod enc Try.prog W base (fun _ => true) true fuel 69 cs = some x) : ∃ (so : Option Addr) (sn sc : Nat) (S : Sw), cs = [.string S.pl, .slice so sn sc] ∧ Bs W so sn sc S.no ∧ S.pl.size + sn ≤ 20 * Rows.uptoBulk x.1 := by
  have ks : Try.prog.cellsOf 9 = 1 := by kernel_rfl
  have kb : Try.prog.cellsOf 22 = 1 := by kernel_rfl
  have ka : Try.prog.cellsOf 65 = 1 := by kernel_rfl
  have ku32 : Try.prog.cellsOf 26 = 1 := by kernel_rfl
  have kc : Try.prog.cellsOf 27 = 1 := by kernel_rfl
  have ku8 : Try.prog.cellsOf 5 = 1 := by kernel_rfl
  have ku16 : Try.prog.cellsOf 29 = 1 := by kernel_rfl
  have cn : Try.prog.cellsOf 69 = 2 := by kernel_rfl
  obtain ⟨xs, n, _, rfl, hl, hlen, hf⟩ := DataW.trod_struct Try.underlying69 h
  rw [cn] at hl
  obtain ⟨u0, u1, rfl⟩ := list2 hl
  obtain ⟨y0, y1, rfl⟩ := list2 (show _ = 2 from hlen)
  · skip
    have t0 := hf 0 _ rfl
    have t1 := hf 1 _ rfl
    simp [ks, kb, ka, ku32, kc, ku8, ku16] at t0 t1
    obtain ⟨z0, e0, q0⟩ := str_in t0
    obtain ⟨o1, n1, c1, l1, e1, m1, q1⟩ := bs_in t1
    simp at e0 e1
    subst e0 e1
    refine ⟨o1, n1, c1, ⟨z0, l1⟩, rfl, m1, ?_⟩
    simp only [List.map_cons, List.map_nil, Rows.uptoBulk, Rows.uptoBulkAll]
    omega

theorem cu_in (h : DataW.trod enc Try.prog W base (fun _ => true) true fuel 71 cs = some x) : ∃ (uo : Option Addr) (un uc : Nat) (vo : Option Addr) (vn vc : Nat) (U : Cu), cs = [.string U.us, .slice uo un uc, .string U.sc, .int .u16 U.ch, .string U.pl, .slice vo vn vc] ∧ Bs W uo un uc U.re ∧ As W vo vn vc U.at' ∧ CuK U ∧ U.us.size + un + U.sc.size + U.pl.size + (aB U.at').length ≤ 20 * Rows.uptoBulk x.1 := by
  have ks : Try.prog.cellsOf 9 = 1 := by kernel_rfl
  have kb : Try.prog.cellsOf 22 = 1 := by kernel_rfl
  have ka : Try.prog.cellsOf 65 = 1 := by kernel_rfl
  have ku32 : Try.prog.cellsOf 26 = 1 := by kernel_rfl
  have kc : Try.prog.cellsOf 27 = 1 := by kernel_rfl
  have ku8 : Try.prog.cellsOf 5 = 1 := by kernel_rfl
  have ku16 : Try.prog.cellsOf 29 = 1 := by kernel_rfl
  have cn : Try.prog.cellsOf 71 = 6 := by kernel_rfl
  obtain ⟨xs, n, _, rfl, hl, hlen, hf⟩ := DataW.trod_struct Try.underlying71 h
  rw [cn] at hl
  obtain ⟨u0, u1, u2, u3, u4, u5, rfl⟩ := list6 hl
  obtain ⟨y0, y1, y2, y3, y4, y5, rfl⟩ := list6 (show _ = 6 from hlen)
  · skip
    have t0 := hf 0 _ rfl
    have t1 := hf 1 _ rfl
    have t2 := hf 2 _ rfl
    have t3 := hf 3 _ rfl
    have t4 := hf 4 _ rfl
    have t5 := hf 5 _ rfl
    simp [ks, kb, ka, ku32, kc, ku8, ku16] at t0 t1 t2 t3 t4 t5
    obtain ⟨z0, e0, q0⟩ := str_in t0
    obtain ⟨o1, n1, c1, l1, e1, m1, q1⟩ := bs_in t1
    obtain ⟨z2, e2, q2⟩ := str_in t2
    obtain ⟨z3, e3, d3, w3⟩ := DataW.trod_int Try.underlying29 t3
    have q3 := bounds_u16 w3
    obtain ⟨z4, e4, q4⟩ := str_in t4
    obtain ⟨o5, n5, c5, l5, e5, m5, q5⟩ := as_in t5
    simp at e0 e1 e2 e3 e4 e5
    subst e0 e1 e2 e3 e4 e5
    refine ⟨o1, n1, c1, o5, n5, c5, ⟨z0, l1, z2, z3, z4, l5⟩, rfl, m1, m5, ⟨⟨by simp only; omega, by simp only; omega⟩⟩, ?_⟩
    simp only [List.map_cons, List.map_nil, Rows.uptoBulk, Rows.uptoBulkAll]
    omega

end

theorem array24 {α : Type} {cs : Array α} (h : cs.size = 24) : ∃ c0 c1 c2 c3 c4 c5 c6 c7 c8 c9 c10 c11 c12 c13 c14 c15 c16 c17 c18 c19 c20 c21 c22 c23, cs = #[c0, c1, c2, c3, c4, c5, c6, c7, c8, c9, c10, c11, c12, c13, c14, c15, c16, c17, c18, c19, c20, c21, c22, c23] := by
  obtain ⟨l⟩ := cs
  match l, h with
  | [c0, c1, c2, c3, c4, c5, c6, c7, c8, c9, c10, c11, c12, c13, c14, c15, c16, c17, c18, c19, c20, c21, c22, c23], _ => exact ⟨c0, c1, c2, c3, c4, c5, c6, c7, c8, c9, c10, c11, c12, c13, c14, c15, c16, c17, c18, c19, c20, c21, c22, c23, rfl⟩

theorem pk_of {H : Type} {enc : TypeId × Value → H} {W : World} {base fuel : Nat} {cs : Array Value} {x : DataW H × List MemPlace} (hsz : cs.size = Try.prog.cellsOf 73)
    (h : DataW.trod enc Try.prog W base (fun _ => true) true fuel 73 (Value.agg cs).cells.toList = some x) : ∃ (go : Option Addr) (gn gc : Nat) (G : Gr) (ro : Option Addr) (rn rc : Nat) (tt : Option Addr) (tn tc : Nat) (A : An) (so : Option Addr) (sn sc : Nat) (S : Sw) (uo : Option Addr) (un uc : Nat) (vo : Option Addr) (vn vc : Nat) (U : Cu) (C : Int), cs = #[.string G.ve, .int .u32 G.th, .slice go gn gc, .int .u32 G.ca, .int .u8 G.ch, .int .u16 G.st, .string G.pl, .int .u32 A.ca, .int .u32 A.mo, .int .u8 A.ch, .string A.us, .slice ro rn rc, .string A.sc, .string A.pl, .slice tt tn tc, .string S.pl, .slice so sn sc, .string U.us, .slice uo un uc, .string U.sc, .int .u16 U.ch, .string U.pl, .slice vo vn vc, .int .u32 C] ∧ Bs W go gn gc G.no ∧ Bs W ro rn rc A.re ∧ As W tt tn tc A.at' ∧ Bs W so sn sc S.no ∧ Bs W uo un uc U.re ∧ As W vo vn vc U.at' ∧ GrK G ∧ AnK A ∧ CuK U ∧ G.ve.size + gn + G.pl.size + A.us.size + rn + A.sc.size + A.pl.size + S.pl.size + sn + U.us.size + un + U.sc.size + U.pl.size + (aB A.at').length + (aB U.at').length ≤ 80 * Rows.uptoBulk x.1 := by
  have c24 : Try.prog.cellsOf 73 = 24 := by kernel_rfl
  have cG : Try.prog.cellsOf 64 = 7 := by kernel_rfl
  have cA : Try.prog.cellsOf 67 = 8 := by kernel_rfl
  have cS : Try.prog.cellsOf 69 = 2 := by kernel_rfl
  have cU : Try.prog.cellsOf 71 = 6 := by kernel_rfl
  have cC : Try.prog.cellsOf 27 = 1 := by kernel_rfl
  obtain ⟨c0, c1, c2, c3, c4, c5, c6, c7, c8, c9, c10, c11, c12, c13, c14, c15, c16, c17, c18, c19, c20, c21, c22, c23, rfl⟩ := array24 (hsz.trans c24)
  obtain ⟨xs, n, _, rfl, hl, hlen, hf⟩ := DataW.trod_struct Try.underlying73 h
  match xs, hlen with
  | [y0, y1, y2, y3, y4], _ =>
    have t0 := hf 0 _ rfl
    have t1 := hf 1 _ rfl
    have t2 := hf 2 _ rfl
    have t3 := hf 3 _ rfl
    have t4 := hf 4 _ rfl
    simp [Value.cells, cG, cA, cS, cU, cC] at t0 t1 t2 t3 t4
    obtain ⟨go, gn, gc, G, e0, mG, kG, q0⟩ := gr_in t0
    obtain ⟨ro, rn, rc, tt, tn, tc, A, e1, mA, mT, kA, q1⟩ := an_in t1
    obtain ⟨so, sn, sc, S, e2, mS, q2⟩ := sw_in t2
    obtain ⟨uo, un, uc, vo, vn, vc, U, e3, mU, mV, kU, q3⟩ := cu_in t3
    obtain ⟨C, e4, _, w4⟩ := DataW.trod_int Try.underlying27 t4
    simp at e0 e1 e2 e3 e4
    obtain ⟨rfl, rfl, rfl, rfl, rfl, rfl, rfl⟩ := e0
    obtain ⟨rfl, rfl, rfl, rfl, rfl, rfl, rfl, rfl⟩ := e1
    obtain ⟨rfl, rfl⟩ := e2
    obtain ⟨rfl, rfl, rfl, rfl, rfl, rfl⟩ := e3
    subst e4
    refine ⟨go, gn, gc, G, ro, rn, rc, tt, tn, tc, A, so, sn, sc, S, uo, un, uc, vo, vn, vc, U, C, rfl, mG, mA, mT, mS, mU, mV, kG, kA, kU, ?_⟩
    simp only [List.map_cons, List.map_nil, Rows.uptoBulk, Rows.uptoBulkAll]
    omega

end Go.Proofs.Ytkijdkbkbelliaa
