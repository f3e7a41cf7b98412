/-
  A packet reader that is fed what a squeezed reader tells: what a chunk more tells. Conditions: a most of at most 200 for each, payloads of at most 100 bytes; the tables hold what the program's text says.
-/
import Derived.Test.YtbolaljlhmakeaaGreatDoorSqChk
import Derived.Test.YtbolaljlhmakeaaGreatDoorPktChunkP
namespace Go.Proofs.YtbolaljlhmakeaaGreatDoor.Pkt
open Go.RowKit
set_option linter.unusedVariables false
set_option linter.unusedSimpArgs false

theorem take_snoc {α : Type} (l : List α) (i : Nat) (x : α) (h : l[i]? = some x) : l.take (i + 1) = l.take i ++ [x] := by
  rw [List.take_add_one, h]
  rfl
theorem spl_len_le (M : Nat) (hM : 1 ≤ M) : ∀ (f : Nat) (b : List Int) (q : Int), b.length ≤ f → (spl M f b q).1.length ≤ 5 * b.length + 4
  | 0, b, q, h => by simp only [spl]; rw [fr1_len]; omega
  | f + 1, b, q, h => by
    simp only [spl]
    split
    · have := spl_len_le M hM f (b.drop M) ((q + 1) % 256) (by rw [List.length_drop]; omega)
      rw [List.length_append, fr1_len, List.length_take]
      rw [List.length_drop] at this
      omega
    · rw [fr1_len]; omega
theorem cnt_zero (M : Nat) (r : List (List Int)) (q : Int) : cnt M r q 0 = 0 := by
  cases r with
  | nil => rfl
  | cons b r =>
    have := spl_pos M b.length b q
    simp only [cnt]
    rw [if_neg (by omega)]
theorem flatP_two (l l' : List Pm) : flatP (l ++ l') = flatP l ++ flatP l' := by simp [flatP]
theorem flatP_ones (l : List Pm) : ∀ u ∈ flatP l, u.oneCell' = true := by
  intro u hu
  obtain ⟨x, _, hx⟩ := List.mem_flatMap.1 hu
  exact pv_ones x u hx
/-- 'append(l, l2...)', l of the call's own. -/
theorem wpList_kappL {ops : Array Oper} {rest : List Oper} {o : Oper} {a : Act} {w : World} {Q : Exit → Act → World → Prop} (hgd : o.guard = none) (s x : Operand)
    (ho : o.op = .call { callee := .builtin .append, args := #[s, x], argTypes := #[53, 53] })
    (ao : Option Addr) (n c : Nat) (l : List Pm) (hs : a.eval s = .slice ao n c) (hm : KMine w ao n c l)
    (ao' : Option Addr) (m c' : Nat) (l' : List Pm) (hx : a.eval x = .slice ao' m c') (hm' : KMine w ao' m c' l') (hbound : n + m ≤ 2000000000)
    (h : ∀ ao1 c1 w1, KMine w1 ao1 (n + m) c1 (l ++ l') → Fs (ob ao) w (ob ao1) w1 → wpList Tryz.prog ops Q rest (a.put o.dst (.slice ao1 (n + m) c1)) w1) :
    wpList Tryz.prog ops Q (o :: rest) a w := by
  obtain ⟨i0, hi, hz0, hz1, hz2⟩ := info_parts Tryz.infoPk
  have hlen := hm.len
  have hlen' := hm'.len
  rcases hm'.own.2 with ⟨hv, h0⟩ | ⟨g, cap, cur, hv, r⟩
  · simp only [Value.slice.injEq] at hv
    obtain ⟨rfl, _, rfl⟩ := hv
    subst h0
    have hl : l' = [] := List.eq_nil_of_length_eq_zero hlen'
    subst hl
    refine wpList_append_own_none hgd s x 53 ho 0 58 i0 3 Tryz.underlying53 hi _ _ _ hs hm.own hx ?_
    exact h ao c w (by simpa using hm) (Fs.refl _ _)
  · simp only [Value.slice.injEq] at hv
    obtain ⟨rfl, _, rfl⟩ := hv
    refine wpList_append_own_at w hgd s x 53 ho 0 58 i0 (.agg (pv pz)) 3 32 Tryz.underlying53 hi hz0 hz1 hz2 rfl (by decide) _ _ _ hs hm.own ⟨g, 0, none⟩ m c' (flatP l') hx hm'.own.1 (hm'.own.cells (g := g) rfl) (flatP_ones l') (by unfold maxLen; omega) (by omega) (Nat.zero_le _) ?_
    intro v' w' hown hgrow hnil hsrc
    rw [← flatP_two] at hown
    have hex : ∃ ao1 c1, v' = .slice ao1 (n + m) c1 := by
      rcases hown.2 with ⟨hv, h0⟩ | ⟨g, cap, cur, hv, _⟩
      · exact ⟨none, 0, by rw [h0]; exact hv⟩
      · exact ⟨_, _, hv⟩
    obtain ⟨ao1, c1, hv⟩ := hex
    subst hv
    refine h ao1 c1 w' ⟨by simp [hlen, hlen'], hown, fun p hp => ?_⟩ ⟨hgrow.os, hgrow.tape, hgrow.output, hgrow.size, fun k hk hn => grown_at hgrow hk hn, kapp_src hsrc⟩
    rcases List.mem_append.1 hp with hp | hp
    · exact hm.fit p hp
    · exact hm'.fit p hp
end Go.Proofs.YtbolaljlhmakeaaGreatDoor.Pkt
namespace Go.Proofs.YtbolaljlhmakeaaGreatDoor
open Go.RowKit
set_option linter.unusedVariables false
set_option linter.unusedSimpArgs false

/-- Just the blocks g and h have changed. -/
structure Gh (g h : Nat) (w w' : World) : Prop where
  os : w'.os = w.os
  tape : w'.tape = w.tape
  output : w'.output = w.output
  size : w.heap.size ≤ w'.heap.size
  block : ∀ k, k < w.heap.size → k ≠ g → k ≠ h → w'.heap[k]? = w.heap[k]?
theorem Gh.refl (g h : Nat) (w : World) : Gh g h w w := ⟨rfl, rfl, rfl, Nat.le_refl _, fun _ _ _ _ => rfl⟩
theorem Gh.fs {g h : Nat} {S S' : Nat → Prop} {w w1 w2 : World} (G : Gh g h w w1) (f : Fs S w1 S' w2) (hS : ∀ k, S k → k = g ∨ k = h ∨ w.heap.size ≤ k) : Gh g h w w2 :=
  ⟨f.os.trans G.os, f.tape.trans G.tape, f.output.trans G.output, Nat.le_trans G.size f.size, fun k hk h1 h2 => by
    have := G.size
    rw [f.block k (by omega) (fun z => by rcases hS k z with z | z | z <;> omega), G.block k hk h1 h2]⟩
theorem Gh.below {g h : Nat} {w w' : World} (G : Gh g h w w') {B : Nat} (hB : B ≤ w.heap.size) (h1 : B ≤ g) (h2 : B ≤ h) : Below B w w' :=
  ⟨G.os, G.tape, G.output, G.size, fun k hk => G.block k (by omega) (by omega) (by omega)⟩
/-- The chunk number j, in every later world in which just two blocks, that are none of theirs, have changed. -/
theorem chunks_at2 {w w' w2 : World} {g h' : Nat} {bo : Option Addr} {bs : List Int} {oo : Option Addr} {on oc : Nat} {ks : List Nat} {vs : List Value} (hl : ks.length = on) (hC : CutK w bo bs ks vs) (hS : SMine w.heap.size w' oo on oc vs) (hW : Below w.heap.size w w') (G : Gh g h' w' w2) (hg : g < w.heap.size) (hh : h' < w.heap.size) (hb : ¬ ob bo g) (hb' : ¬ ob bo h') {j k : Nat} (hk : ks[j]? = some k) :
    ∃ b o aj cj, (∀ wx, (Instr.indexAt 45 (.slice oo on oc) (.int .i64 (j : Int))).run Tryz.prog wx = .ok (.pointer (some ⟨b, o, none⟩)) wx) ∧ w2.cell? ⟨b, o, none⟩ = some (.slice aj k cj) ∧ Bs w2 aj k cj ((bs.drop (ks.take j).sum).take k) ∧ ∀ x, ob aj x → ob bo x := by
  obtain ⟨aj, cj, h1, h3, h2⟩ := hC j k hk
  have hjn : j < on := by rw [← hl]; exact (List.getElem?_eq_some_iff.1 hk).1
  have hB := h2 w' hW
  rcases hS.own.2 with ⟨hv, h0⟩ | ⟨h, cap, cur, hv, hh, hc, r⟩
  · simp only [Value.slice.injEq] at hv
    obtain ⟨rfl, rfl, rfl⟩ := hv
    omega
  · simp only [Value.slice.injEq] at hv
    obtain ⟨rfl, _, rfl⟩ := hv
    have hce := hS.own.cells (g := h) rfl j _ h1
    rw [Addr.add_lit, Nat.zero_add] at hce
    have hblk := G.block h (Array.getElem?_eq_some_iff.1 hc).1 (by omega) (by omega)
    refine ⟨h, j, aj, cj, fun wx => ?_, (World.cell?_of_block (w := w') (a := ⟨h, j, none⟩) hblk).trans hce, hB.keepB fun k q hl => G.block k hl (fun e => hb (h3 g (e ▸ q))) (fun e => hb' (h3 h' (e ▸ q))), h3⟩
    rw [run_indexAt_slice wx 45 _ on oc .i64 (j : Int) Tryz.elemBB]
    simp [Tryz.sizeBB, hjn, Addr.add_lit, Result.andThen]

/-- Behind the first a bytes of z and the first A bytes of the frames of xs, with the first C payloads told: both readers, and what was told so far. -/
structure Dj (w5 ws : World) (g h M m : Nat) (z : List Int) (xs : List (List Int)) (a A C : Nat) (ho bo io : Option Addr) (hc bc ic : Nat) (to : Option Addr) (tn tc : Nat) (l : List Pkt.Pm) : Prop where
  q : Rq ws g (M : Int) ho hc (qat M 0 z a).1
  r : Pkt.Rd ws h (m : Int) 100 bo bc io ic (Pkt.sat m 100 xs A)
  hl : Pkt.hln (Pkt.sat m 100 xs A) ≤ 104
  lq : ∀ k, fq g ho k → k = g ∨ w5.heap.size ≤ k
  lr : ∀ k, Pkt.ft h bo io k → k = h ∨ w5.heap.size ≤ k
  qr : ∀ k, fq g ho k → ¬ Pkt.ft h bo io k
  lt : ∀ k, Pkt.pf to l k → w5.heap.size ≤ k ∧ k < ws.heap.size ∧ ¬ fq g ho k ∧ ¬ Pkt.ft h bo io k
  tb : ∀ p ∈ l, ∀ k, ob p.ao k → ¬ ob to k
  km : Pkt.KMine ws to tn tc l
  bd : Pkt.Bods ws l
  tl : l.map (·.bs) = xs.take C
  G : Gh g h w5 ws

section
variable {w5 ws : World} {g h M m : Nat} {z : List Int} {xs : List (List Int)} {a A C : Nat} {ho bo io : Option Addr} {hc bc ic : Nat} {to : Option Addr} {tn tc : Nat} {l : List Pkt.Pm}
/-- Behind Feed of the squeezed reader. -/
def OutDq (w5 ws : World) (g h M m : Nat) (z : List Int) (xs : List (List Int)) (a A C k : Nat) (bo io : Option Addr) (bc ic : Nat) (to : Option Addr) (tn tc : Nat) (l : List Pkt.Pm) (e : Ending) (w6 : World) : Prop :=
  ∃ yo yn yc ho hc t', e = .returned (.tuple #[.slice yo yn yc, .int .i64 0]) ∧ Bs w6 yo yn yc t' ∧ (qat M 0 z (a + k)).2.1 = (qat M 0 z a).2.1 ++ t' ∧ Dj w5 w6 g h M m z xs (a + k) A C ho bo io hc bc ic to tn tc l
theorem dj_outer {k : Nat} (D : Dj w5 ws g h M m z xs a A C ho bo io hc bc ic to tn tc l) (hv : Vars ws) (g3 : 3 ≤ g) (hgl : g < w5.heap.size) (hk : a + k ≤ z.length) (hkb : k ≤ 1000000) (h0 : (ql M z.length ⟨0, z, 0⟩ []).2.2 = 0)
    (ci : Option Addr) (cc : Nat) (hb : Bs ws ci k cc ((z.drop a).take k)) (hci : ∀ k, ob ci k → k < g) :
    Calls Tryz.prog 11 #[.pointer (some ⟨g, 0, none⟩), .slice ci k cc] ws fun e w6 => OutDq w5 ws g h M m z xs a A C k bo io bc ic to tn tc l e w6 := by
  obtain ⟨t', e1, e2, e3, e4⟩ := qat_chunk M 0 z a k hk h0
  have hz := D.G.size
  refine (qFeed_any ws D.q hv (fun k z => by rcases D.lq k z with z | z <;> omega) (fun _ => e4) ci k cc _ hb hkb (fun k z => ⟨by have := hci k z; omega, fun y => by have := hci k z; rcases D.lq k y with y | y <;> omega⟩)).mono ?_
  rintro e w6 ⟨yo, yn, yc, ho', hc', rfl, hm, hdy, hr6, hf⟩
  rw [e1] at hm hr6 ⊢
  have hsz := hf.size
  refine ⟨yo, yn, yc, ho', hc', t', rfl, hm.bs, e2, hr6, D.r.fs hf (fun k z y => D.qr k y z), D.hl, fun k z => ?_, D.lr, fun k z y => ?_, fun k z => ?_, D.tb, D.km.fs hf (fun k z => (D.lt k (.inl z)).2.2.1), D.bd.fs hf (fun p hp k z => (D.lt k (.inr ⟨p, hp, z⟩)).2.2.1), D.tl, D.G.fs hf (fun k z => by rcases D.lq k z with z | z; exact .inl z; exact .inr (.inr z))⟩
  · rcases hf.src k z with z | z
    · exact D.lq k z
    · exact .inr (by omega)
  · rcases hf.src k z with z | z
    · exact D.qr k z y
    · have := D.r.lt y; omega
  · obtain ⟨q1, q2, q3, q4⟩ := D.lt k z
    refine ⟨q1, by omega, fun y => ?_, q4⟩
    rcases hf.src k y with y | y
    · exact q3 y
    · omega
/-- Behind Feed of the packet reader. -/
def OutDr (w5 ws : World) (g h M m : Nat) (z : List Int) (xs : List (List Int)) (a A C k : Nat) (ho : Option Addr) (hc : Nat) (to : Option Addr) (tn tc : Nat) (l : List Pkt.Pm) (e : Ending) (w7 : World) : Prop :=
  ∃ yo yn yc l' bo bc io ic, e = .returned (.tuple #[.slice yo yn yc, .int .i64 0]) ∧ Pkt.KMine w7 yo yn yc l' ∧ Pkt.Bods w7 l' ∧ l'.map (·.bs) = (xs.take (Pkt.cnt m xs 0 (A + k))).drop (Pkt.cnt m xs 0 A) ∧ (∀ k, Pkt.pf yo l' k → w5.heap.size ≤ k ∧ k < w7.heap.size ∧ ¬ fq g ho k ∧ ¬ Pkt.ft h bo io k ∧ ¬ ob to k) ∧ Dj w5 w7 g h M m z xs a (A + k) C ho bo io hc bc ic to tn tc l
theorem dj_inner {k : Nat} (D : Dj w5 ws g h M m z xs a A C ho bo io hc bc ic to tn tc l) (m1 : 1 ≤ m) (m2 : m ≤ 1000) (hx : ∀ b ∈ xs, b.length ≤ 100) (hk : A + k ≤ (Pkt.frs m xs 0).1.length) (hkb : k ≤ 1000000)
    (ci : Option Addr) (cc : Nat) (hb : Bs ws ci k cc (((Pkt.frs m xs 0).1.drop A).take k)) :
    Calls Tryz.prog 21 #[.pointer (some ⟨h, 0, none⟩), .slice ci k cc] ws fun e w7 => OutDr w5 ws g h M m z xs a A C k ho hc to tn tc l e w7 := by
  obtain ⟨t', e1, e2, e3, e4⟩ := Pkt.feed_chunk m 100 m1 (by omega) xs A k (fun b hb => by have := hx b hb; omega) hk
  have hh := D.hl
  have hhl : (Pkt.sat m 100 xs A).held.length ≤ 104 := by unfold Pkt.hln at hh; omega
  have hz := D.G.size
  refine (Pkt.feed_any ws D.r ci k cc _ hb (by omega) (by omega)).mono ?_
  rintro e w7 ⟨yo, yn, yc, l', bo', bc', io', ic', rfl, hp, hpl, hr7, hf⟩
  have hfh := (Pkt.feed_holds m 100 (Pkt.sat m 100 xs A) _ D.r.rl.ok D.r.own.byt hb.byt (by omega) (by rw [hb.len]; omega)).1
  rw [e1] at hpl hr7 hfh ⊢
  dsimp only at hpl hr7 hfh
  have hsz := hf.size
  have new : ∀ k, Pkt.pf yo l' k → ¬ Pkt.ft h bo' io' k ∧ k < w7.heap.size := by
    intro k z
    rcases z with z | ⟨p, hp', z⟩
    · exact ⟨hp.d1 k z, hp.own.ob z⟩
    · exact ⟨(hp.d2 p hp' k z).1, (hp.d2 p hp' k z).2.2⟩
  have src : ∀ k, Pkt.bf h bo' io' yo l' k → Pkt.ft h bo io k ∨ ws.heap.size ≤ k := hf.src
  refine ⟨yo, yn, yc, l', bo', bc', io', ic', rfl, hp.own, hp.bod, ?_, fun k z => ?_, ?_⟩
  · rw [← e2, ← hpl, List.map_map]
    rfl
  · obtain ⟨n1, n2⟩ := new k z
    rcases src k (.inr z) with y | y
    · refine ⟨?_, n2, fun u => D.qr k u y, n1, fun u => (D.lt k (.inl u)).2.2.2 y⟩
      rcases D.lr k y with y | y
      · exact absurd (.inl y) n1
      · exact y
    · exact ⟨by omega, n2, fun u => by have := D.q.ltf u; omega, n1, fun u => by have := (D.lt k (.inl u)).2.1; omega⟩
  · refine ⟨D.q.fs hf (fun k z => D.qr k z), hr7, by omega, D.lq, fun k z => ?_, fun k z y => ?_, fun k z => ?_, D.tb, D.km.fs hf (fun k z => (D.lt k (.inl z)).2.2.2), D.bd.fs hf (fun p hp k z => (D.lt k (.inr ⟨p, hp, z⟩)).2.2.2), D.tl, D.G.fs hf (fun k z => by rcases D.lr k z with z | z; exact .inr (.inl z); exact .inr (.inr z))⟩
    · rcases src k (.inl z) with y | y
      · exact D.lr k y
      · exact .inr (by omega)
    · rcases src k (.inl y) with y | y
      · exact D.qr k z y
      · have := D.q.ltf z; omega
    · obtain ⟨q1, q2, q3, q4⟩ := D.lt k z
      refine ⟨q1, by omega, q3, fun y => ?_⟩
      rcases src k (.inl y) with y | y
      · exact q4 y
      · omega
/-- What the packet reader told is put behind what was told. -/
theorem Dj.push (D : Dj w5 ws g h M m z xs a A C ho bo io hc bc ic to tn tc l) {w8 : World} {l' : List Pkt.Pm} {yo to8 : Option Addr} {n8 c8 C' : Nat} (hbd : Pkt.Bods ws l') (hl' : l'.map (·.bs) = (xs.take C').drop C) (hC : C ≤ C') (hC' : C' ≤ xs.length) (new : ∀ k, Pkt.pf yo l' k → w5.heap.size ≤ k ∧ k < ws.heap.size ∧ ¬ fq g ho k ∧ ¬ Pkt.ft h bo io k ∧ ¬ ob to k)
    (hm : Pkt.KMine w8 to8 n8 c8 (l ++ l')) (hf : Fs (ob to) ws (ob to8) w8) : Dj w5 w8 g h M m z xs a A C' ho bo io hc bc ic to8 n8 c8 (l ++ l') := by
  have hz := D.G.size
  have hsz := hf.size
  have all : ∀ p ∈ l ++ l', Bs ws p.ao p.bs.length p.cap p.bs ∧ ∀ k, ob p.ao k → w5.heap.size ≤ k ∧ k < ws.heap.size ∧ ¬ fq g ho k ∧ ¬ Pkt.ft h bo io k ∧ ¬ ob to k := by
    intro p hp
    rcases List.mem_append.1 hp with hp | hp
    · refine ⟨D.bd p hp, fun k z => ?_⟩
      obtain ⟨q1, q2, q3, q4⟩ := D.lt k (.inr ⟨p, hp, z⟩)
      exact ⟨q1, q2, q3, q4, D.tb p hp k z⟩
    · exact ⟨hbd p hp, fun k z => new k (.inr ⟨p, hp, z⟩)⟩
  refine ⟨D.q.fs hf (fun k z y => (D.lt k (.inl y)).2.2.1 z), D.r.fs hf (fun k z y => (D.lt k (.inl y)).2.2.2 z), D.hl, D.lq, D.lr, D.qr, fun k z => ?_, fun p hp k z y => ?_, hm, fun p hp => (all p hp).1.fs hf (fun k z => ((all p hp).2 k z).2.2.2.2), ?_, D.G.fs hf (fun k z => .inr (.inr (D.lt k (.inl z)).1))⟩
  · rcases z with z | ⟨p, hp, z⟩
    · have hk := hm.ob z
      rcases hf.src k z with y | y
      · obtain ⟨q1, q2, q3, q4⟩ := D.lt k (.inl y)
        exact ⟨q1, hk, q3, q4⟩
      · exact ⟨by omega, hk, fun u => by have := D.q.ltf u; omega, fun u => by have := D.r.lt u; omega⟩
    · obtain ⟨q1, q2, q3, q4, _⟩ := (all p hp).2 k z
      exact ⟨q1, by omega, q3, q4⟩
  · obtain ⟨q1, q2, q3, q4, q5⟩ := (all p hp).2 k z
    rcases hf.src k y with y | y
    · exact q5 y
    · omega
  · rw [List.map_append, D.tl, hl']
    have e1 : xs.take C = (xs.take C').take C := by rw [List.take_take]; congr 1; omega
    rw [e1, List.take_append_drop]
end
end Go.Proofs.YtbolaljlhmakeaaGreatDoor
