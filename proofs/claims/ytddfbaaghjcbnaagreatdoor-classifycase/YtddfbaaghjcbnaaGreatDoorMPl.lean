/-
  What plain of package scan, and Told of the document's own answers, return for any word. Conditions: at most 1,048,576 bytes; the library's variables read as they were laid.
  What Plain of package scan, and Plain of the document's own answers, return for any words. Conditions: at most 200 words, of at most 2,000 bytes each; the library's variables read as they were laid.
-/
import Derived.Test.YtddfbaaghjcbnaaGreatDoorScQt
import Derived.Test.YtddfbaaghjcbnaaGreatDoorKlMem
import Derived.Test.YtddfbaaghjcbnaaGreatDoorScRow
import Derived.Test.YtddfbaaghjcbnaaGreatDoorScWd
import Derived.Test.YtddfbaaghjcbnaaGreatDoorShl
import Derived.Shelf.Strings.BuilderK
namespace Go.Proofs.YtddfbaaghjcbnaaGreatDoor
open Go.RowKit
set_option linter.unusedVariables false
set_option linter.unusedSimpArgs false

/-- A word, as Plain tells it. -/
def told (x : Wd) : Bl := if x.k = 2 then btw 96 (bl x.tx) else if x.k = 3 then qto (bl x.tx) else if x.k = 6 then 64 :: btw 96 (bl x.tx) else if x.k = 7 then 64 :: 64 :: bl x.tx else if x.k = 8 then [63] else bl x.tx
theorem btw_len (c : UInt8) (l : Bl) : (btw c l).length ≤ 2 * l.length + 2 := by
  have := dbl_len c l
  unfold btw
  rw [List.length_cons, List.length_append, List.length_cons, List.length_nil]
  omega
theorem qto_len (l : Bl) : (qto l).length ≤ 4 * l.length + 2 := by
  have := btw_len 39 (dbl 92 l)
  have := dbl_len 92 l
  unfold qto
  omega
theorem told_len (x : Wd) : (told x).length ≤ 4 * x.tx.size + 4 := by
  have h1 := btw_len 96 (bl x.tx)
  have h2 := qto_len (bl x.tx)
  rw [bl_len] at h1 h2
  unfold told
  repeat' split
  all_goals try simp only [List.length_cons, List.length_nil, bl_len]
  all_goals omega
theorem cat_ba (c : ByteArray) (p l : Bl) (h : bl c = p) : c ++ ba l = ba (p ++ l) := by
  have : bl (c ++ ba l) = p ++ l := by rw [bl_app, h, bl_ba]
  rw [← this, ba_bl]
theorem cat_bs (c s : ByteArray) (p : Bl) (h : bl c = p) : c ++ s = ba (p ++ bl s) := by
  have : bl (c ++ s) = p ++ bl s := by rw [bl_app, h]
  rw [← this, ba_bl]

set_option maxHeartbeats 1000000 in
set_option maxRecDepth 20000 in
theorem plain1_any (x : Wd) (w : World) (hV : Vr w) (hs : x.tx.size ≤ 1048576) : Calls Tryz.prog 18 #[.agg (wdC x)] w fun e w' => e = .returned (.string (ba (told x))) ∧ Below w.heap.size w w' := by
  obtain ⟨k, s, a⟩ := x
  simp only at hs
  show Calls Tryz.prog 18 #[.agg #[.int .i64 k, .string s, .int .i64 a]] w _
  have bA := below_alloc w (.cells #[.int .i64 k, .string s, .int .i64 a] 35)
  have k0 := cell_top w #[.int .i64 k, .string s, .int .i64 a] 35 0 w.heap.size rfl
  have k1 := cell_top w #[.int .i64 k, .string s, .int .i64 a] 35 1 w.heap.size rfl
  have e0 : ∃ w1, w1 = w.alloc (.cells #[.int .i64 k, .string s, .int .i64 a] 35) := ⟨_, rfl⟩
  have c1 := hide (fun wx (h : Vr wx) => between_any 96 ⟨#[96]⟩ s wx h (by omega) rfl)
  have c2 := hide (fun wx (h : Vr wx) => quote_any s wx h (by omega))
  have HV := hide (hV.later bA)
  have hx1 : (ba (btw 96 (bl s))).size ≤ 3000000 := by have := btw_len 96 (bl s); rw [bl_len] at this; rw [ba_size]; omega
  have t6 := hide (cat_ba ⟨#[64]⟩ [64] (btw 96 (bl s)) rfl)
  have t7 := hide (cat_bs ⟨#[64, 64]⟩ s [64, 64] rfl)
  have h1 : (⟨#[64]⟩ : ByteArray).size = 1 := rfl
  have h2 : (⟨#[64, 64]⟩ : ByteArray).size = 2 := rfl
  have g1 : ¬ 9223372036854775807 < (⟨#[64]⟩ : ByteArray).size + (ba (btw 96 (bl s))).size := by omega
  have g2 : ¬ 9223372036854775807 < (⟨#[64, 64]⟩ : ByteArray).size + s.size := by omega
  have g3 : ¬ 9223372036854775807 < 1 + (ba (btw 96 (bl s))).size := by omega
  have g4 : ¬ 9223372036854775807 < 2 + s.size := by omega
  clear h1 h2
  rcases (show k = 2 ∨ k = 3 ∨ k = 6 ∨ k = 7 ∨ k = 8 ∨ (k ≠ 2 ∧ k ≠ 3 ∧ k ≠ 6 ∧ k ≠ 7 ∧ k ≠ 8) by omega) with rfl | rfl | rfl | rfl | rfl | ⟨n2, n3, n6, n7, n8⟩
  · go_enter Tryz.func18, Tryz.ntmps18
    go_wp2_with (go_at_call 56; (with_reducible refine (unhide c1 _ (unhide HV)).mono ?_); rintro e w2 ⟨rfl, b2⟩; have b3 := bt bA b2)
    go_ret
    exact ⟨rfl, b3⟩
  · go_enter Tryz.func18, Tryz.ntmps18
    go_wp2_with (go_at_call 57; (with_reducible refine (unhide c2 _ (unhide HV)).mono ?_); rintro e w2 ⟨rfl, b2⟩; have b3 := bt bA b2)
    go_ret
    exact ⟨rfl, b3⟩
  · go_enter Tryz.func18, Tryz.ntmps18
    go_wp2_with (go_at_call 56; (with_reducible refine (unhide c1 _ (unhide HV)).mono ?_); rintro e w2 ⟨rfl, b2⟩; have b3 := bt bA b2)
    go_ret
    exact ⟨by rw [unhide t6]; rfl, b3⟩
  · go_enter Tryz.func18, Tryz.ntmps18
    go_wp2_with fail
    go_ret
    exact ⟨by rw [unhide t7]; rfl, bA⟩
  · go_enter Tryz.func18, Tryz.ntmps18
    go_wp2_with fail
    go_ret
    exact ⟨rfl, bA⟩
  · have e2 : (k == 2) = false := by simpa using n2
    have e3 : (k == 3) = false := by simpa using n3
    have e6 : (k == 6) = false := by simpa using n6
    have e7 : (k == 7) = false := by simpa using n7
    have e8 : (k == 8) = false := by simpa using n8
    have hT := hide (show told ⟨k, s, a⟩ = bl s by unfold told; simp only; rw [if_neg n2, if_neg n3, if_neg n6, if_neg n7, if_neg n8])
    clear n2 n3 n6 n7 n8
    go_enter Tryz.func18, Tryz.ntmps18
    go_wp2_with fail
    go_ret
    exact ⟨by rw [unhide hT, ba_bl]; rfl, bA⟩

end Go.Proofs.YtddfbaaghjcbnaaGreatDoor

namespace Go.Proofs.YtddfbaaghjcbnaaGreatDoor
open Go.RowKit
set_option linter.unusedVariables false
set_option linter.unusedSimpArgs false

/-- A word, in a block of its own. -/
def Wb (g : Nat) (x : Wd) (w : World) : Prop := w.heap[g]? = some (.cells (wdC x) 35 (0, 0))
theorem wb_c {g : Nat} {x : Wd} {w : World} (h : Wb g x w) : w.cell? ⟨g, 0, none⟩ = some (.int .i64 x.k) ∧ w.cell? ⟨g, 1, none⟩ = some (.string x.tx) ∧ w.cell? ⟨g, 2, none⟩ = some (.int .i64 x.at') := ⟨cell_of_row w g 0 _ _ _ h, cell_of_row w g 1 _ _ _ h, cell_of_row w g 2 _ _ _ h⟩
theorem wpList_alWd {ops : Array Oper} {rest : List Oper} {o : Oper} {a : Act} {w : World} {Q : Exit → Act → World → Prop} (hgd : o.guard = none) (ho : o.op = .alloc 35)
    (h : ∀ w1, Wb w.heap.size wd0 w1 → Below w.heap.size w w1 → w1.heap.size = w.heap.size + 1 → wpList Tryz.prog ops Q rest (a.put o.dst (.pointer (some ⟨w.heap.size, 0, none⟩))) w1) : wpList Tryz.prog ops Q (o :: rest) a w :=
  wpList_alN hgd _ ho (wdC wd0) Tryz.zeroValue35 h
theorem wpList_stWd {ops : Array Oper} {rest : List Oper} {o : Oper} {a : Act} {w : World} {Q : Exit → Act → World → Prop} (hgd : o.guard = none) (x y : Operand) (ho : o.op = .store 35 x y)
    (g : Nat) (f f0 : Wd) (hx : a.eval x = .pointer (some ⟨g, 0, none⟩)) (hy : a.eval y = .agg (wdC f)) (hg : Wb g f0 w)
    (h : ∀ w1, Wb g f w1 → Gb g w w1 → w1.heap.size = w.heap.size → wpList Tryz.prog ops Q rest (a.put o.dst undef) w1) : wpList Tryz.prog ops Q (o :: rest) a w :=
  wpList_stK hgd _ x y ho g (wdC f) (wdC f0) hx hy hg (wdc_info f) rfl (wdc_one f) h
/-- Words, told behind O; j of them stand there. -/
def tolds (O : Bl) (j : Nat) : List Wd → Bl
  | [] => O
  | x :: r => tolds ((if 0 < j then O ++ [32] else O) ++ told x) (j + 1) r
theorem tolds_nil (O : Bl) (j : Nat) : tolds O j [] = O := rfl
theorem tolds_cons0 (O : Bl) (x : Wd) (r : List Wd) : tolds O 0 (x :: r) = tolds (O ++ told x) 1 r := rfl
theorem tolds_cons (O : Bl) (j : Nat) (h : 0 < j) (x : Wd) (r : List Wd) : tolds O j (x :: r) = tolds ((O ++ [32]) ++ told x) (j + 1) r := by rw [tolds, if_pos h]
theorem drop_wd {xs : List Wd} {j : Nat} {x : Wd} (h : xs[j]? = some x) : xs.drop j = x :: xs.drop (j + 1) := by
  obtain ⟨hl, rfl⟩ := List.getElem?_eq_some_iff.1 h
  rw [List.drop_eq_getElem_cons hl]
theorem bf_keep {T e : TypeId} {B b : Nat} {bs : List Value} {w w' : World} (h : Lib.IsBuilderF T e B b bs w) (hk : ∀ k, k < w.heap.size → w'.heap[k]? = w.heap[k]?) : Lib.IsBuilderF T e B b bs w' := by
  have : ∀ p, Lib.BuilderAtF T e B b p bs w → Lib.BuilderAtF T e B b p bs w' := by
    rintro p ⟨hB, v, hb, ⟨hl, ho⟩, hne⟩
    refine ⟨hB, v, by rw [hk b (Array.getElem?_eq_some_iff.1 hb).1]; exact hb, ⟨hl, ?_⟩, hne⟩
    rcases ho with ho | ⟨g, cap, cur, fz, hv, hg, hh, r⟩
    · exact .inl ho
    · exact .inr ⟨g, cap, cur, fz, hv, hg, by rw [hk g (Array.getElem?_eq_some_iff.1 hh).1]; exact hh, r⟩
  exact h.elim (fun x => .inl (this _ x)) (fun x => .inr (this _ x))
def Bu (b : Nat) (O : Bl) (w : World) : Prop := Lib.IsBuilderF 55 5 b b (Lib.byteCells O) w
theorem Bu.fresh {b : Nat} {w : World} (h : w.heap[b]? = some (.cells #[.pointer none, .slice none 0 0] 55 (0, 0))) : Bu b [] w :=
  .inl ⟨Nat.le_refl _, _, h, ⟨rfl, .inl ⟨rfl, rfl⟩⟩, by simp [Value.ownBlock]⟩
theorem Bu.later {b : Nat} {O : Bl} {w w' : World} (h : Bu b O w) (hb : Below w.heap.size w w') : Bu b O w' := bf_keep h fun k hk => hb.block k hk
theorem Bu.keep {b : Nat} {O : Bl} {w w' : World} (h : Bu b O w) (hk : ∀ k, k < w.heap.size → w'.heap[k]? = w.heap[k]?) : Bu b O w' := bf_keep h hk
theorem wb_kept {g b : Nat} {x : Wd} {w w' : World} (h : Wb g x w) (hk : Lib.OthersKept 5 (some b) w w') (hne : g ≠ b) : Wb g x w' :=
  hk g _ h (fun e => hne (Option.some.inj e)) (fun c fz e => by injection e with _ e2 _; exact absurd e2 (by decide))
theorem wb_at {g : Nat} {x : Wd} {w : World} (h : Wb g x w) : AtW w g 0 x := by
  intro j hj
  rw [Nat.zero_add]
  exact cell_of_row w g j _ _ _ h
theorem bu_byte (b : Nat) (O : Bl) (c : UInt8) (w : World) (h : Bu b O w) (hl : O.length ≤ 10000000) (hb : b ≤ w.heap.size) :
    Calls Tryz.prog 16 #[.pointer (some ⟨b, 0, none⟩), .int .u8 c.toNat] w fun e w' => e = .returned .nilIface ∧ Bu b (O ++ [c]) w' ∧ Below b w w' ∧ Lib.OthersKept 5 (some b) w w' := by
  have := Any.Builder_WriteByte_k Tryz.lays167 Tryz.Builder_Extra_167 b b (Lib.byteCells O) c.toNat w h (by rw [Lib.byteCells_length]; omega) hb
  refine this.mono fun e w' k => ⟨k.1, ?_, k.2.2⟩
  have e : Lib.byteCells (O ++ [c]) = Lib.byteCells O ++ [.int .u8 c.toNat] := by simp [Lib.byteCells]
  unfold Bu
  rw [e]
  exact .inr k.2.1
theorem bu_str (b : Nat) (O l : Bl) (w : World) (h : Bu b O w) (hl : O.length ≤ 100000000) (h2 : l.length ≤ 10000000) (hb : b ≤ w.heap.size) :
    Calls Tryz.prog 17 #[.pointer (some ⟨b, 0, none⟩), .string (ba l)] w fun e w' => e = .returned (.tuple #[.int .i64 (ba l).size, .nilIface]) ∧ Bu b (O ++ l) w' ∧ Below b w w' ∧ Lib.OthersKept 5 (some b) w w' := by
  have := Any.Builder_WriteString_k { Tryz.lays155 with } Tryz.Builder_Extra_155 b b (Lib.byteCells O) (ba l) w h (by rw [Lib.byteCells_length, ba_size]; omega) hb
  refine this.mono fun e w' k => ⟨k.1, ?_, k.2.2⟩
  have e : Lib.byteCells (O ++ l) = Lib.byteCells O ++ Lib.strCells (ba l) := by
    have : Lib.strCells (ba l) = Lib.byteCells l := rfl
    rw [this]
    simp [Lib.byteCells]
  unfold Bu
  rw [e]
  exact .inr k.2.1
theorem bu_end (b : Nat) (O : Bl) (w : World) (h : Bu b O w) (hb : b ≤ w.heap.size) :
    Calls Tryz.prog 19 #[.pointer (some ⟨b, 0, none⟩)] w fun e w' => e = .returned (.string (ba O)) ∧ Below b w w' := by
  have := Any.Builder_String_any_k Tryz.lays169 Tryz.Builder_Extra_169 b b O w h hb
  exact this.mono fun e w' k => ⟨k.1, k.2.2.1⟩

set_option maxHeartbeats 4000000 in
set_option maxRecDepth 20000 in
theorem scPlain_any (ao : Option Addr) (n c : Nat) (xs : List Wd) (w : World) (hV : Vr w) (h : Wds w ao n c xs) (hn : n ≤ 200) (hs : ∀ x ∈ xs, x.tx.size ≤ 2000) :
    Calls Tryz.prog 7 #[.slice ao n c] w fun e w' => e = .returned (.string (ba (tolds [] 0 xs))) ∧ Below w.heap.size w w' := by
  have HV := hide hV
  have hmax := h.max
  have hle := h.le
  have hl := hide h.len
  have H := hide h
  have HS := hide hs
  clear h hs
  obtain ⟨R, hR⟩ : ∃ R, R = tolds [] 0 xs := ⟨_, rfl⟩
  rw [← hR]
  have HR := hide hR
  clear hR
  go_enter Tryz.func7, Tryz.ntmps7
  go_wp2_with (with_reducible show wpList Tryz.prog _ _ (Oper.mk _ (Op.alloc 55) _ _ _ none :: _) _ _; refine wpList_alN rfl 55 rfl #[.pointer none, .slice none 0 0] Tryz.zeroValue55 ?_; intro w1 f1 q1 t1)
  have B1 := hide (Bu.fresh f1)
  go_loopw [8] (fun iv wr => ∃ (j : Nat) (O : Bl), j ≤ n ∧ iv = .int .i64 (j : Int) ∧ O.length ≤ 8200 * j ∧ tolds O j (xs.drop j) = R ∧ Bu w.heap.size O wr ∧ Below w.heap.size w wr ∧ w.heap.size < wr.heap.size) (fun iv _ => n - (intOf iv).toNat)
  case atStart => exact ⟨0, [], by omega, rfl, by simp, (unhide HR).symm, unhide B1, q1, by omega⟩
  case round =>
    obtain ⟨j, O, hj, rfl, ho, hq, hB, hb, hz0⟩ := hrel
    have HQ := hide hq
    have HB := hide hB
    clear hq hB
    by_cases hlt : j < n
    · have hx : xs[j]? = some (xs[j]'(by rw [unhide hl]; exact hlt)) := List.getElem?_eq_getElem _
      obtain ⟨b1, o1, i1, a1⟩ := ((unhide H).later hb).idx hx (j : Int) rfl
      have hxs := unhide HS _ (List.getElem_mem (by rw [unhide hl]; exact hlt : j < xs.length))
      generalize xs[j]'(by rw [unhide hl]; exact hlt) = x at *
      have hd := hide (drop_wd hx)
      have HA := hide a1
      clear hx a1
      have hz := told_len x
      have C0 := hide (fun wx (h : Vr wx) => plain1_any x wx h (by omega))
      have C1 := hide (fun P wx h1 h2 h3 => bu_str w.heap.size P (told x) wx h1 h2 (by omega) h3)
      have C2 := hide (fun wx h1 h3 => bu_byte w.heap.size O 32 wx h1 (by omega) h3)
      change Hid (∀ wx, Bu w.heap.size O wx → w.heap.size ≤ wx.heap.size → Calls Tryz.prog 16 #[.pointer (some ⟨w.heap.size, 0, none⟩), .int .u8 32] wx fun e w' => e = .returned .nilIface ∧ Bu w.heap.size (O ++ [32]) w' ∧ Below w.heap.size wx w' ∧ Lib.OthersKept 5 (some w.heap.size) wx w') at C2
      by_cases h0 : j = 0
      · subst h0
        rw [show ((0 : Nat) : Int) = 0 from rfl] at i1
        go_wp2_with (first | (with_reducible show wpList Tryz.prog _ _ (Oper.mk _ (Op.load 35 _) _ _ _ none :: _) _ _; refine wpList_ldW rfl (.tmp 11) rfl b1 o1 (by simp [Act.eval, Act.put]) x (unhide HA) ?_) | (with_reducible show wpList Tryz.prog _ _ (Oper.mk _ (Op.alloc 35) _ _ _ none :: _) _ _; refine wpList_alWd rfl rfl ?_; intro w2 f2 q2 t2; have b2 := bt hb q2) | (with_reducible show wpList Tryz.prog _ _ (Oper.mk _ (Op.store 35 _ _) _ _ _ none :: _) _ _; refine wpList_stWd rfl (.tmp 5) (.tmp 12) rfl wr.heap.size x wd0 (by simp [Act.eval, Act.put]) (by simp [Act.eval, Act.put]) f2 ?_; intro w3 f3 g3 t3; have b3 := below_gb b2 g3 (by omega); have B3 : Bu w.heap.size O w3 := (unhide HB).keep (fun k hk => (g3.block k (by omega) (by omega)).trans (q2.block k hk))) | (with_reducible show wpList Tryz.prog _ _ (Oper.mk _ (Op.load 35 _) _ _ _ none :: _) _ _; refine wpList_ldW rfl (.tmp 5) rfl wr.heap.size 0 (by simp [Act.eval, Act.put]) x (wb_at f3) ?_) | (go_at_call 18; (with_reducible refine (unhide C0 _ ((unhide HV).later b3)).mono ?_); rintro e w5 ⟨rfl, q5⟩; have B5 := B3.later q5; have b5 := bt b3 q5; have s5 := q5.size) | (go_at_call 17; (with_reducible refine (unhide C1 O w5 B5 (by first | omega | (simp; omega)) (by omega)).mono ?_); rintro e w6 ⟨rfl, B6, q6, k6⟩; have b6 := b5.trans q6; have s6 := q6.size))
        go_roundw
        case rel => exact ⟨1, _, by omega, by go_num, (by rw [List.length_append]; omega), (by rw [← unhide HQ, unhide hd]; rfl), B6, b6, by omega⟩
        case measure => simp [intOf]; omega
      · have hp : 0 < j := by omega
        go_wp2_with (first | (with_reducible show wpList Tryz.prog _ _ (Oper.mk _ (Op.load 35 _) _ _ _ none :: _) _ _; refine wpList_ldW rfl (.tmp 11) rfl b1 o1 (by simp [Act.eval, Act.put]) x (unhide HA) ?_) | (with_reducible show wpList Tryz.prog _ _ (Oper.mk _ (Op.alloc 35) _ _ _ none :: _) _ _; refine wpList_alWd rfl rfl ?_; intro w2 f2 q2 t2; have b2 := bt hb q2) | (with_reducible show wpList Tryz.prog _ _ (Oper.mk _ (Op.store 35 _ _) _ _ _ none :: _) _ _; refine wpList_stWd rfl (.tmp 5) (.tmp 12) rfl wr.heap.size x wd0 (by simp [Act.eval, Act.put]) (by simp [Act.eval, Act.put]) f2 ?_; intro w3 f3 g3 t3; have b3 := below_gb b2 g3 (by omega); have B3 : Bu w.heap.size O w3 := (unhide HB).keep (fun k hk => (g3.block k (by omega) (by omega)).trans (q2.block k hk))) | (go_at_call 16; (with_reducible refine (unhide C2 w3 B3 (by omega)).mono ?_); rintro e w4 ⟨rfl, B4, q4, k4⟩; have f4 := wb_kept f3 k4 (by omega); have b4 := b3.trans q4; have s4 := q4.size) | (with_reducible show wpList Tryz.prog _ _ (Oper.mk _ (Op.load 35 _) _ _ _ none :: _) _ _; refine wpList_ldW rfl (.tmp 5) rfl wr.heap.size 0 (by simp [Act.eval, Act.put]) x (wb_at f4) ?_) | (go_at_call 18; (with_reducible refine (unhide C0 _ ((unhide HV).later b4)).mono ?_); rintro e w5 ⟨rfl, q5⟩; have B5 := B4.later q5; have b5 := bt b4 q5; have s5 := q5.size) | (go_at_call 17; (with_reducible refine (unhide C1 (O ++ [32]) w5 B5 (by first | omega | (simp; omega)) (by omega)).mono ?_); rintro e w6 ⟨rfl, B6, q6, k6⟩; have b6 := b5.trans q6; have s6 := q6.size))
        go_roundw
        case rel => exact ⟨j + 1, _, by omega, by go_num, (by rw [List.length_append, List.length_append]; simp; omega), (by rw [← unhide HQ, unhide hd, tolds_cons _ _ hp]), B6, b6, by omega⟩
        case measure => simp [intOf]; omega
    · have hjn : j = n := by omega
      have hdn := hide (show xs.drop j = [] from List.drop_of_length_le (by rw [unhide hl]; omega))
      have C3 := hide (bu_end w.heap.size O wr (unhide HB) (by omega))
      go_wp2_with (go_at_call 19; (with_reducible refine (unhide C3).mono ?_); rintro e w9 ⟨rfl, q9⟩)
      go_ret
      exact ⟨by rw [← unhide HQ, unhide hdn, tolds_nil]; rfl, hb.trans q9⟩

end Go.Proofs.YtddfbaaghjcbnaaGreatDoor
