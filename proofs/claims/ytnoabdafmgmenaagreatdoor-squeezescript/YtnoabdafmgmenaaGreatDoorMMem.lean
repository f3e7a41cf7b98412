/-
  What a slice of bytes is in memory, for the walks: where its bytes lie, that it stays there while new memory is made, and what 'append' to a slice of the call's own leaves. Conditions: lengths below a bound that is far above every length the statements allow.
  What a walk asks of slices of bytes and of strings besides: making, appending where there is room, literals, conversions, slices that came in. Conditions: lengths below a bound that is far above every length the statements allow.
  What a slice of ints is in memory, for the walks: where its numbers lie, that it stays there while new memory is made, what 'append' to a slice of the call's own leaves, what 'make' gives. Conditions: lengths below a bound that is far above every length the statements allow.
  Bits of small numbers: the last bit, a bit set behind others, a number's next bit. No program is named here.
  Which blocks of memory a call may have changed: one, or one and the row of a slice that grows. Conditions: lengths below a bound that is far above every length the statements allow.
  Pieces in memory: a variable that holds one, a row of them. Conditions: lengths below a bound that is far above every length the statements allow.
  What SameBytes of the statements' helpers returns for any bytes: whether they are the same. It writes nothing. Conditions: none but that the slices can be read.
  Which blocks a call may have changed: those of a set; and what stays where its blocks stay. Conditions: lengths below a bound that is far above every length the statements allow.
-/
import Derived.Test.YtnoabdafmgmenaaGreatDoorRows
import Derived.Test.YtnoabdafmgmenaaGreatDoorMPlain
import Derived.WalkKit
import Derived.WalkSpells
import Derived.WalkLawsBesides
import Derived.Laws.AppendOwnNone
import Derived.Lib.ConvBytes
import Derived.Lib.SlBytesConst
import Derived.OpenShut
import Derived.Laws.Bits128
import Derived.Maps.AppendAt
import Derived.Deep.WholeRow
import Derived.Laws.Rows
import Derived.Lib.BytesEntry
namespace Go.Proofs.YtnoabdafmgmenaaGreatDoor
open Go.RowKit
set_option linter.unusedVariables false

theorem hide {p : Prop} (h : p) : Hid p := h
theorem unhide {p : Prop} (h : Hid p) : p := h

theorem Tryz.infoByte : (Tryz.prog.info? 5).map (fun i => (i.zero, i.size, i.bytes)) = some (some (.int .u8 0), 1, 1) := by kernel_rfl

/-- The slice 'ao, n, c' holds the bytes bs. -/
structure Bs (w : World) (ao : Option Addr) (n c : Nat) (bs : List Int) : Prop where
  len : bs.length = n
  le : n ≤ c
  max : c ≤ 9223372036854775807
  nil : ao = none → c = 0
  byt : Byt bs
  at' : n = 0 ∨ ∃ b off, ao = some ⟨b, off, none⟩ ∧ ∀ i, i < n → w.cell? ⟨b, off + i, none⟩ = some (.int .u8 (bs.getD i 0))

theorem Bs.nought (w : World) : Bs w .none 0 0 [] := ⟨rfl, Nat.le_refl _, by omega, fun _ => rfl, Byt.nil, .inl rfl⟩

/-- It stays while only new memory is written. -/
theorem Bs.later {w w' : World} {ao : Option Addr} {n c : Nat} {bs : List Int} (h : Bs w ao n c bs) (hb : Below w.heap.size w w') : Bs w' ao n c bs := by
  refine ⟨h.len, h.le, h.max, h.nil, h.byt, ?_⟩
  rcases h.at' with h0 | ⟨b, off, e, hc⟩
  · exact .inl h0
  · exact .inr ⟨b, off, e, fun i hi => cell_later hb (hc i hi)⟩

/-- The bytes bs in a row of the call's own, from block B on. -/
structure Mine (B : Nat) (w : World) (ao : Option Addr) (n c : Nat) (bs : List Int) : Prop where
  len : bs.length = n
  own : w.ownsRow B 5 1 (.slice ao n c) n (bs.map (Value.int .u8))
  byt : Byt bs

theorem Mine.nought (B : Nat) (w : World) : Mine B w .none 0 0 [] := ⟨rfl, World.ownsRow_nil _ _ _ _, Byt.nil⟩

theorem Mine.bs {B : Nat} {w : World} {ao : Option Addr} {n c : Nat} {bs : List Int} (h : Mine B w ao n c bs) : Bs w ao n c bs := by
  have hl := h.len
  rcases h.own.2 with ⟨hv, h0⟩ | ⟨g, cap, cur, hv, hg, hh, hle, hmax, hsz, htake⟩
  · simp only [Value.slice.injEq] at hv
    obtain ⟨rfl, rfl, rfl⟩ := hv
    exact ⟨h.len, Nat.le_refl _, by omega, fun _ => rfl, h.byt, .inl rfl⟩
  · simp only [Value.slice.injEq] at hv
    obtain ⟨rfl, _, rfl⟩ := hv
    refine ⟨h.len, hle, by unfold maxLen at hmax; omega, (fun hq => by cases hq), h.byt, .inr ⟨g, 0, rfl, fun i hi => ?_⟩⟩
    have := h.own.cells (g := g) rfl i (.int .u8 (bs.getD i 0)) (by simp [List.getElem?_eq_getElem (show i < bs.length by omega)])
    rw [Addr.add_lit] at this
    exact this

theorem Mine.mono {B B' : Nat} {w : World} {ao : Option Addr} {n c : Nat} {bs : List Int} (h : Mine B w ao n c bs) (hB : B' ≤ B) : Mine B' w ao n c bs := by
  refine ⟨h.len, ⟨h.own.1, ?_⟩, h.byt⟩
  rcases h.own.2 with hv | ⟨g, cap, cur, hv, hg, r⟩
  · exact .inl hv
  · exact .inr ⟨g, cap, cur, hv, by omega, r⟩

theorem Mine.later {B : Nat} {w w' : World} {ao : Option Addr} {n c : Nat} {bs : List Int} (h : Mine B w ao n c bs) (hb : Below w.heap.size w w') : Mine B w' ao n c bs := by
  refine ⟨h.len, ⟨h.own.1, ?_⟩, h.byt⟩
  rcases h.own.2 with hv | ⟨g, cap, cur, hv, hg, hh, r⟩
  · exact .inl hv
  · exact .inr ⟨g, cap, cur, hv, hg, by rw [hb.block g (Array.getElem?_eq_some_iff.1 hh).1]; exact hh, r⟩

/-- The cells of a slice, as 'append' asks for them. -/
theorem Bs.news {w : World} {ad : Addr} {n c : Nat} {bs : List Int} (h : Bs w (some ad) n c bs) : ∀ j u, (bs.map (Value.int .u8))[j]? = some u → w.cell? (ad.add j) = some u := by
  intro j u hu
  have hj : j < bs.length := by
    have := (List.getElem?_eq_some_iff.1 hu).1
    simpa using this
  rcases h.at' with h0 | ⟨b, off, e, hc⟩
  · have := h.len; omega
  · obtain rfl := Option.some.inj e
    have := hc j (by have := h.len; omega)
    rw [Addr.add_lit, this]
    simp [List.getElem?_eq_getElem hj] at hu
    simp [hu, List.getElem?_eq_getElem hj]

/-- 'append(out, xs...)', out of the call's own. -/
theorem wpList_app {ops : Array Oper} {rest : List Oper} {o : Oper} {a : Act} {w : World} {Q : Exit → Act → World → Prop} (hgd : o.guard = none) (s x : Operand)
    (ho : o.op = .call { callee := .builtin .append, args := #[s, x], argTypes := #[31, 31] })
    (B : Nat) (ao : Option Addr) (n c : Nat) (bs : List Int) (hs : a.eval s = .slice ao n c) (hm : Mine B w ao n c bs)
    (ao' : Option Addr) (m c' : Nat) (cs : List Int) (hx : a.eval x = .slice ao' m c') (hb : Bs w ao' m c' cs) (hbound : n + m ≤ 140737488355328) (hB : B ≤ w.heap.size)
    (h : ∀ ao1 c1 w1, Mine B w1 ao1 (n + m) c1 (bs ++ cs) → Below B w w1 → wpList Tryz.prog ops Q rest (a.put o.dst (.slice ao1 (n + m) c1)) w1) :
    wpList Tryz.prog ops Q (o :: rest) a w := by
  obtain ⟨i0, hi, hz0, hz1, hz2⟩ := info_parts Tryz.infoByte
  have hlen := hm.len
  have hlen' := hb.len
  cases ao' with
  | none =>
    have hc' := hb.nil rfl
    have hm0 : m = 0 := by have := hb.le; omega
    subst hm0
    subst hc'
    have hcs : cs = [] := List.eq_nil_of_length_eq_zero hlen'
    subst hcs
    refine wpList_append_own_none hgd s x 31 ho B 5 i0 1 Tryz.underlying31 hi _ _ _ hs hm.own hx ?_
    exact h ao c w (by simpa using hm) (Below.refl _ _)
  | some ad =>
    refine wpList_append_own w hgd s x 31 ho B 5 i0 (.int .u8 0) 1 1 Tryz.underlying31 hi hz0 hz1 hz2 rfl (by decide) _ _ _ hs hm.own ad m c' (cs.map (Value.int .u8)) hx (by simp [hlen']) hb.news (ints_oneCell _ _) (by unfold maxLen; omega) (by omega) hB ?_
    intro v' w' hown hgrow _
    rw [← List.map_append] at hown
    have hbel : Below B w w' := (Below.refl B w).grown hgrow hB (fun k hk => (hm.own.lt k hk).1)
    have hex : ∃ ao1 c1, v' = .slice ao1 (n + m) c1 := by
      rcases hown.2 with ⟨hv, h0⟩ | ⟨g, cap, cur, hv, _⟩
      · exact ⟨.none, 0, by rw [hv, h0]⟩
      · exact ⟨_, _, hv⟩
    obtain ⟨ao1, c1, hv⟩ := hex
    subst hv
    exact h ao1 c1 w' ⟨by simp [hlen, hlen'], hown, hm.byt.app hb.byt⟩ hbel

/-- The address of 's[lo:..]'. -/
def cutAt (ao : Option Addr) (c lo : Nat) : Option Addr := if c = lo then ao else ao.map (·.add (lo * 1))

/-- A piece of a slice is a slice. -/
theorem Bs.cut {w : World} {ao : Option Addr} {n c : Nat} {bs : List Int} (h : Bs w ao n c bs) {lo hi : Nat} (h1 : lo ≤ hi) (h2 : hi ≤ n) : Bs w (cutAt ao c lo) (hi - lo) (c - lo) ((bs.drop lo).take (hi - lo)) := by
  have hl := h.len
  have hle := h.le
  refine ⟨by simp [hl]; omega, by omega, by have := h.max; omega, fun e => ?_, (h.byt.drop lo).take _, ?_⟩
  · have : ao = none := by
      unfold cutAt at e
      split at e
      · exact e
      · simpa using e
    have := h.nil this
    omega
  · by_cases hz : hi - lo = 0
    · exact .inl hz
    · right
      rcases h.at' with h0 | ⟨b, off, rfl, hc⟩
      · omega
      · refine ⟨b, off + lo, by unfold cutAt; rw [if_neg (by omega)]; simp [Addr.add_lit], fun i hi => ?_⟩
        have := hc (lo + i) (by omega)
        rw [Nat.add_assoc, this]
        simp [hi]

theorem Tryz.sizeByte (w : World) : (sizeOf (Tryz.prog.elem 31)).run Tryz.prog w = .ok 1 w := by kernel_rfl
theorem Tryz.elemBytes : Tryz.prog.underlying 31 = some (.slice (Tryz.prog.elem 31)) := by kernel_rfl

theorem run_cut_lh (ao : Option Addr) (n c lo hi : Nat) (h1 : lo ≤ hi) (h2 : hi ≤ c) (L H : Int) (hL : L = lo) (hH : H = hi) (w : World) :
    (Instr.slice 31 (.slice ao n c) (some (.int .i64 L)) (some (.int .i64 H)) none).run Tryz.prog w = .ok (.slice (cutAt ao c lo) (hi - lo) (c - lo)) w := by
  subst hL hH
  rw [run_slice_lh w 31 ao n c Tryz.elemBytes .i64 .i64 lo hi (by omega) (by omega) (by omega), Tryz.sizeByte]
  rfl
theorem run_cut_h (ao : Option Addr) (n c hi : Nat) (h2 : hi ≤ c) (H : Int) (hH : H = hi) (w : World) :
    (Instr.slice 31 (.slice ao n c) none (some (.int .i64 H)) none).run Tryz.prog w = .ok (.slice (cutAt ao c 0) (hi - 0) (c - 0)) w := by
  subst hH
  rw [run_slice_h w 31 ao n c Tryz.elemBytes .i64 hi (by omega) (by omega), Tryz.sizeByte]
  rfl
theorem run_cut_l (ao : Option Addr) (n c lo : Nat) (h1 : lo ≤ n) (L : Int) (hL : L = lo) (w : World) :
    (Instr.slice 31 (.slice ao n c) (some (.int .i64 L)) none none).run Tryz.prog w = .ok (.slice (cutAt ao c lo) (n - lo) (c - lo)) w := by
  subst hL
  rw [run_slice_l w 31 ao n c Tryz.elemBytes .i64 lo (by omega) (by omega), Tryz.sizeByte]
  rfl

/-- 's[lo:hi]' for the walk: a new value of which its bytes are known. -/
theorem Bs.cut_lh {w : World} {ao : Option Addr} {n c : Nat} {bs : List Int} (h : Bs w ao n c bs) {lo hi : Nat} (h1 : lo ≤ hi) (h2 : hi ≤ n) (L H : Int) (hL : L = lo) (hH : H = hi) :
    ∃ ao' c', (∀ wx, (Instr.slice 31 (.slice ao n c) (some (.int .i64 L)) (some (.int .i64 H)) none).run Tryz.prog wx = .ok (.slice ao' (hi - lo) c') wx) ∧ Bs w ao' (hi - lo) c' ((bs.drop lo).take (hi - lo)) :=
  ⟨_, _, run_cut_lh ao n c lo hi h1 (by have := h.le; omega) L H hL hH, h.cut h1 h2⟩
theorem Bs.cut_h {w : World} {ao : Option Addr} {n c : Nat} {bs : List Int} (h : Bs w ao n c bs) {hi : Nat} (h2 : hi ≤ n) (H : Int) (hH : H = hi) :
    ∃ ao' c', (∀ wx, (Instr.slice 31 (.slice ao n c) none (some (.int .i64 H)) none).run Tryz.prog wx = .ok (.slice ao' hi c') wx) ∧ Bs w ao' hi c' (bs.take hi) :=
  ⟨_, _, run_cut_h ao n c hi (by have := h.le; omega) H hH, by simpa using h.cut (Nat.zero_le hi) h2⟩
theorem Bs.cut_l {w : World} {ao : Option Addr} {n c : Nat} {bs : List Int} (h : Bs w ao n c bs) {lo : Nat} (h1 : lo ≤ n) (L : Int) (hL : L = lo) :
    ∃ ao' c', (∀ wx, (Instr.slice 31 (.slice ao n c) (some (.int .i64 L)) none none).run Tryz.prog wx = .ok (.slice ao' (n - lo) c') wx) ∧ Bs w ao' (n - lo) c' (bs.drop lo) :=
  ⟨_, _, run_cut_l ao n c lo h1 L hL, by have := h.cut h1 (Nat.le_refl n); rwa [List.take_of_length_le (by simp [h.len])] at this⟩

end Go.Proofs.YtnoabdafmgmenaaGreatDoor

namespace Go.Proofs.YtnoabdafmgmenaaGreatDoor
open Go.RowKit
set_option linter.unusedVariables false
set_option linter.unusedSimpArgs false

/-- 'make([]byte, 0, n)'. -/
theorem wpList_mk {ops : Array Oper} {rest : List Oper} {o : Oper} {a : Act} {w : World} {Q : Exit → Act → World → Prop} (hgd : o.guard = none) (l c : Operand)
    (ho : o.op = Op.makeSlice 31 l c) (kl kc : IntKind) (C : Int) (n : Nat) (hl : a.eval l = .int kl 0) (hc : a.eval c = .int kc C) (hC : C = (n : Int)) (hbound : n ≤ 140737488355328)
    (h : ∀ w1, Mine w.heap.size w1 (some ⟨w.heap.size, 0, none⟩) 0 n [] → Below w.heap.size w w1 → w.heap.size < w1.heap.size → wpList Tryz.prog ops Q rest (a.put o.dst (.slice (some ⟨w.heap.size, 0, none⟩) 0 n)) w1) :
    wpList Tryz.prog ops Q (o :: rest) a w := by
  obtain ⟨i0, hi, hz0, hz1, hz2⟩ := info_parts Tryz.infoByte
  refine wpList_make_own w hgd l c 31 ho w.heap.size 5 i0 (.int .u8 0) 1 Tryz.underlying31 hi hz0 hz1 kl kc C n hl hc hC (by rw [hz2]; omega) (by unfold maxLen; omega) (Nat.le_refl _) ?_
  intro w1 hown hgrow
  have hm : Mine w.heap.size w1 (some ⟨w.heap.size, 0, none⟩) 0 n [] := ⟨rfl, hown, Byt.nil⟩
  have hlt : w.heap.size < w1.heap.size := (hown.lt w.heap.size rfl).2
  exact h w1 hm ((Below.refl _ w).grown hgrow (Nat.le_refl _) (fun k hk => by cases hk)) hlt

/-- 'make([]byte, n)'. -/
theorem wpList_mkFull {ops : Array Oper} {rest : List Oper} {o : Oper} {a : Act} {w : World} {Q : Exit → Act → World → Prop} (hgd : o.guard = none) (l c : Operand)
    (ho : o.op = Op.makeSlice 31 l c) (kl kc : IntKind) (L C : Int) (n : Nat) (hl : a.eval l = .int kl L) (hc : a.eval c = .int kc C) (hL : L = (n : Int)) (hC : C = (n : Int)) (hbound : n ≤ 140737488355328)
    (h : ∀ w1, Mine w.heap.size w1 (some ⟨w.heap.size, 0, none⟩) n n (List.replicate n 0) → Below w.heap.size w w1 → w.heap.size < w1.heap.size → wpList Tryz.prog ops Q rest (a.put o.dst (.slice (some ⟨w.heap.size, 0, none⟩) n n)) w1) :
    wpList Tryz.prog ops Q (o :: rest) a w := by
  obtain ⟨i0, hi, hz0, hz1, hz2⟩ := info_parts Tryz.infoByte
  refine wpList_make_full w hgd l c 31 ho w.heap.size 5 i0 (.int .u8 0) 1 Tryz.underlying31 hi hz0 hz1 kl kc L C n hl hc hL hC (by rw [hz2]; omega) (by unfold maxLen; omega) (Nat.le_refl _) ?_
  intro w1 hown hgrow
  rw [show (Value.int IntKind.u8 0).cells = #[Value.int IntKind.u8 0] from rfl, toList_madeCells_one, Nat.mul_one, ← List.map_replicate] at hown
  have hm : Mine w.heap.size w1 (some ⟨w.heap.size, 0, none⟩) n n (List.replicate n 0) := ⟨by simp, hown, fun x hx => by have := List.eq_of_mem_replicate hx; omega⟩
  have hlt : w.heap.size < w1.heap.size := (hown.lt w.heap.size rfl).2
  exact h w1 hm ((Below.refl _ w).grown hgrow (Nat.le_refl _) (fun k hk => by cases hk)) hlt

/-- A new block is above all that was there. -/
theorem below_alloc (w : World) (o : Obj) : Below w.heap.size w (w.alloc o) := (Below.refl _ _).alloc (Nat.le_refl _) o

/-- The slice of one byte that 'append(out, b)' lays first. -/
theorem Bs.one (w : World) (v : Int) (h0 : 0 ≤ v) (h1 : v ≤ 255) : Bs (w.alloc (.cells #[.int .u8 v] 5)) (some ⟨w.heap.size, 0, none⟩) 1 1 [v] := by
  refine ⟨rfl, Nat.le_refl _, by omega, (fun e => by cases e), Byt.one h0 h1, .inr ⟨w.heap.size, 0, rfl, fun i hi => ?_⟩⟩
  have : i = 0 := by omega
  subst this
  simp

def nums (s : ByteArray) : List Int := s.data.toList.map fun b => (b.toNat : Int)

theorem nums_length (s : ByteArray) : (nums s).length = s.size := by simp [nums]
theorem nums_byt (s : ByteArray) : Byt (nums s) := by
  intro x hx
  obtain ⟨b, _, rfl⟩ := List.mem_map.1 hx
  have := b.toNat_lt
  omega

theorem below_bytesWorld (w : World) (e : TypeId) (s : ByteArray) : Below w.heap.size w (Lib.bytesWorld w e s) :=
  ⟨rfl, rfl, rfl, by rw [Lib.bytesWorld_size]; omega, fun k hk => Lib.bytesWorld_at_old w e s k hk⟩

theorem bs_bytesWorld (w : World) (s : ByteArray) (hs : s.size ≤ 140737488355328) : Bs (Lib.bytesWorld w 5 s) (some ⟨w.heap.size, 0, none⟩) s.size (grownCap w s.size 0 5) (nums s) := by
  have hm := grownCap_le_maxLen w s.size 0 5 (by unfold maxLen; omega)
  unfold maxLen at hm
  refine ⟨nums_length s, grownCap_ge _ _ _ _, hm, (fun e => by cases e), nums_byt s, .inr ⟨w.heap.size, 0, rfl, fun i hi => ?_⟩⟩
  rw [Nat.zero_add, Lib.bytesWorld_cell w 5 s i hi]
  congr 2
  simp [nums, hi]

/-- '[]byte(s)', for the walk. -/
theorem run_toBytes (s : ByteArray) (w : World) : (convert 9 31 (.string s)).run Tryz.prog w = .ok (.slice (some ⟨w.heap.size, 0, none⟩) s.size (grownCap w s.size 0 5)) (Lib.bytesWorld w 5 s) :=
  Lib.run_convert_string_bytes (P := Tryz.prog) w 9 31 5 s Tryz.underlying9 Tryz.underlying31 Tryz.underlying5

/-- 'append' where there is room: the value is known. -/
theorem wpList_appFits {ops : Array Oper} {rest : List Oper} {o : Oper} {a : Act} {w : World} {Q : Exit → Act → World → Prop} (hgd : o.guard = none) (s x : Operand)
    (ho : o.op = .call { callee := .builtin .append, args := #[s, x], argTypes := #[31, 31] })
    (B g n c : Nat) (bs : List Int) (hs : a.eval s = .slice (some ⟨g, 0, none⟩) n c) (hm : Mine B w (some ⟨g, 0, none⟩) n c bs)
    (ao' : Option Addr) (m c' : Nat) (cs : List Int) (hx : a.eval x = .slice ao' m c') (hb : Bs w ao' m c' cs) (hroom : n + m ≤ c) (hB : B ≤ w.heap.size)
    (h : ∀ w1, Mine B w1 (some ⟨g, 0, none⟩) (n + m) c (bs ++ cs) → Below B w w1 → wpList Tryz.prog ops Q rest (a.put o.dst (.slice (some ⟨g, 0, none⟩) (n + m) c)) w1) :
    wpList Tryz.prog ops Q (o :: rest) a w := by
  obtain ⟨i0, hi, hz0, hz1, hz2⟩ := info_parts Tryz.infoByte
  have hlen := hm.len
  have hlen' := hb.len
  refine wpList_append_fits_any w hgd s x 31 ho B 5 i0 1 Tryz.underlying31 hi hz1 g n c _ hs hm.own ao' m c' (cs.map (Value.int .u8)) hx (by simp [hlen'])
    (fun e => by have := hb.nil e; have := hb.le; omega) (fun ad e => by subst e; exact hb.news) (ints_oneCell _ _) hroom ?_
  intro w1 hown hgrow
  rw [← List.map_append] at hown
  exact h w1 ⟨by simp [hlen, hlen'], hown, hm.byt.app hb.byt⟩ ((Below.refl B w).grown hgrow hB (fun k hk => (hm.own.lt k hk).1))

/-- A first part of a slice, its room kept. -/
theorem Bs.pre {w : World} {ao : Option Addr} {n m c : Nat} {bs cs : List Int} (h : Bs w ao (n + m) c (bs ++ cs)) (hn : bs.length = n) : Bs w ao n c bs := by
  refine ⟨hn, by have := h.le; omega, h.max, h.nil, h.byt.left, ?_⟩
  by_cases h0 : n = 0
  · exact .inl h0
  · rcases h.at' with hz | ⟨b, off, e, hc⟩
    · omega
    · refine .inr ⟨b, off, e, fun i hi => ?_⟩
      rw [hc i (by omega)]
      simp [List.getElem?_append_left (show i < bs.length by omega)]

/-- A slice that is written out in the program's text. -/
theorem Bs.lit (w : World) (l : List Int) (h : Byt l) (hl : l.length ≤ 1000) : Bs (w.alloc (.cells (l.map (Value.int .u8)).toArray 5)) (some ⟨w.heap.size, 0, none⟩) l.length l.length l := by
  refine ⟨rfl, Nat.le_refl _, by omega, (fun e => by cases e), h, .inr ⟨w.heap.size, 0, rfl, fun i hi => ?_⟩⟩
  rw [Nat.zero_add]
  simp [hi]

/-- A slice of bytes that came in. -/
theorem bs_of_row {w : World} {a : Option Addr} {len cap : Nat} {zs : List Int} (h : (a = none ∧ len = 0 ∧ cap = 0 ∧ zs = []) ∨
  ∃ x, a = some x ∧ len ≤ cap ∧ cap ≤ maxLen ∧ zs.length = cap ∧ (∀ i, i < zs.length → w.cell? (x.add i) = some (.int .u8 (zs.getD i 0))) ∧ ∀ n ∈ zs, (Lit.int .u8 n).wf = true) : Bs w a len cap (zs.take len) := by
  rcases h with ⟨rfl, rfl, rfl, rfl⟩ | ⟨x, rfl, hl, hm, hz, hc, hw⟩
  · exact Bs.nought w
  · unfold maxLen at hm
    refine ⟨by simp; omega, hl, by omega, (fun e => by cases e), fun y hy => ?_, ?_⟩
    · have := bounds_u8 (hw y (List.mem_of_mem_take hy))
      omega
    · by_cases h0 : len = 0
      · exact .inl h0
      · right
        obtain ⟨b, off, spot⟩ := x
        have h1 := hc 0 (by omega)
        have hspot : spot = none := by simpa [Addr.add] using World.cell?_spot h1
        subst hspot
        refine ⟨b, off, rfl, fun i hi => ?_⟩
        have := hc i (by omega)
        rw [Addr.add_lit] at this
        rw [this]
        simp [hi]

/-- A call that leaves the world as it was. -/
theorem same_world {P : Program} {f : Nat} {args : Array Value} {w : World} {e0 : Ending} {Q : Ending → World → Prop} (h : Calls P f args w fun e w' => e = e0 ∧ w' = w) (hq : Q e0 w) : Calls P f args w Q := by
  refine h.mono ?_
  rintro e w' ⟨rfl, rfl⟩
  exact hq

theorem cell_top (w : World) (C : Array Value) (t : TypeId) (j b : Nat) (hb : b = w.heap.size) : (w.alloc (.cells C t)).cell? ⟨b, j, none⟩ = C[j]? := by
  subst hb
  exact World.cell?_alloc_mark w C t (0, 0) j
theorem cell_under (w : World) (o : Obj) (b j : Nat) (h : b < w.heap.size) : (w.alloc o).cell? ⟨b, j, none⟩ = w.cell? ⟨b, j, none⟩ := (below_alloc w o).cell (p := ⟨b, j, none⟩) h

theorem tup2 {k l : IntKind} {a b a' b' : Int} (h : a = a') (h2 : b = b') : Ending.returned (.tuple #[.int k a, .int l b]) = .returned (.tuple #[.int k a', .int l b']) := by rw [h, h2]

/-- '[]byte{}'. -/
theorem Mine.empty (w : World) : Mine w.heap.size (w.alloc (.cells #[] 5)) (some ⟨w.heap.size, 0, none⟩) 0 0 [] :=
  ⟨rfl, World.ownsRow_made w #[] 0 (Nat.le_refl _) (by unfold maxLen; omega) rfl, Byt.nil⟩

/-- 'out[i] = v', out of the call's own. -/
theorem Mine.stored {B : Nat} {w : World} {g n c : Nat} {bs : List Int} (h : Mine B w (some ⟨g, 0, none⟩) n c bs) (i : Nat) (v : Int) (h0 : 0 ≤ v) (h1 : v ≤ 255) : Mine B (w.setCell ⟨g, i, none⟩ (.int .u8 v)) (some ⟨g, 0, none⟩) n c (bs.set i v) := by
  refine ⟨by simp [h.len], ?_, fun x hx => ?_⟩
  · rw [List.map_set]
    exact (h.own.stored i _).1
  · rcases List.mem_or_eq_of_mem_set hx with hh | hh
    · exact h.byt x hh
    · omega

theorem Mine.free {B : Nat} {w : World} {g n c : Nat} {bs : List Int} (h : Mine B w (some ⟨g, 0, none⟩) n c bs) (i : Nat) : w.frozen? ⟨g, i, none⟩ = false := h.own.frozenAt i
theorem Mine.block {B : Nat} {w : World} {g n c : Nat} {bs : List Int} (h : Mine B w (some ⟨g, 0, none⟩) n c bs) : B ≤ g ∧ g < w.heap.size := h.own.lt g rfl
/-- A row of the call's own with something in it is a block. -/
theorem Mine.some {B : Nat} {w : World} {ao : Option Addr} {n c : Nat} {bs : List Int} (h : Mine B w ao n c bs) (h0 : 0 < n) : ∃ g, ao = .some ⟨g, 0, none⟩ := by
  rcases h.own.2 with ⟨hv, hz⟩ | ⟨g, cap, cur, hv, _⟩
  · omega
  · simp only [Value.slice.injEq] at hv
    exact ⟨g, hv.1⟩

/-- '[]byte("text")' of a constant: the literal's row gets a mark behind its last cell. -/
theorem run_const (w : World) (C : Array Value) (n c : Nat) : (convert 31 31 (.slice (some ⟨w.heap.size, 0, none⟩) n c)).run Tryz.prog (w.alloc (.cells C 5)) = .ok (.slice (some ⟨w.heap.size, 0, none⟩) n c) (w.alloc (.cells C 5 (C.size, C.size + 1))) :=
  Lib.run_convert_bytes_const (P := Tryz.prog) w 31 5 C n c Tryz.underlying31 Tryz.underlying5

theorem Bs.const (w : World) (m : Nat × Nat) (l : List Int) (h : Byt l) (hl : l.length ≤ 1000) : Bs (w.alloc (.cells (l.map (Value.int .u8)).toArray 5 m)) (some ⟨w.heap.size, 0, none⟩) l.length l.length l := by
  refine ⟨rfl, Nat.le_refl _, by omega, (fun e => by cases e), h, .inr ⟨w.heap.size, 0, rfl, fun i hi => ?_⟩⟩
  rw [Nat.zero_add, World.cell?_alloc_mark]
  simp [hi]

end Go.Proofs.YtnoabdafmgmenaaGreatDoor

namespace Go.Proofs.YtnoabdafmgmenaaGreatDoor
open Go.RowKit
set_option linter.unusedVariables false
set_option linter.unusedSimpArgs false

theorem Tryz.infoInt : (Tryz.prog.info? 3).map (fun i => (i.zero, i.size, i.bytes)) = some (some (.int .i64 0), 1, 8) := by kernel_rfl

/-- Every number of the list is an int's. -/
def I64 (xs : List Int) : Prop := ∀ x ∈ xs, -9223372036854775808 ≤ x ∧ x ≤ 9223372036854775807

theorem I64.nil : I64 [] := by intro x hx; cases hx
theorem I64.app {a b : List Int} (h : I64 a) (k : I64 b) : I64 (a ++ b) := by
  intro x hx
  rcases List.mem_append.1 hx with h1 | h1
  · exact h x h1
  · exact k x h1
theorem I64.one {x : Int} (h0 : -9223372036854775808 ≤ x) (h1 : x ≤ 9223372036854775807) : I64 [x] := by
  intro y hy
  simp at hy
  omega
theorem I64.at {xs : List Int} (h : I64 xs) (i : Nat) : -9223372036854775808 ≤ xs[i]?.getD 0 ∧ xs[i]?.getD 0 ≤ 9223372036854775807 := by
  rcases Nat.lt_or_ge i xs.length with hi | hi
  · simp only [List.getElem?_eq_getElem hi, Option.getD_some]
    exact h _ (List.getElem_mem hi)
  · simp [List.getElem?_eq_none hi]

/-- The slice 'ao, n, c' holds the ints xs. -/
structure Is (w : World) (ao : Option Addr) (n c : Nat) (xs : List Int) : Prop where
  len : xs.length = n
  le : n ≤ c
  max : c ≤ 9223372036854775807
  nil : ao = none → c = 0
  fit : I64 xs
  at' : n = 0 ∨ ∃ b off, ao = some ⟨b, off, none⟩ ∧ ∀ i, i < n → w.cell? ⟨b, off + i, none⟩ = some (.int .i64 (xs[i]?.getD 0))

theorem Is.nought (w : World) : Is w .none 0 0 [] := ⟨rfl, Nat.le_refl _, by omega, fun _ => rfl, I64.nil, .inl rfl⟩

theorem Is.later {w w' : World} {ao : Option Addr} {n c : Nat} {xs : List Int} (h : Is w ao n c xs) (hb : Below w.heap.size w w') : Is w' ao n c xs := by
  refine ⟨h.len, h.le, h.max, h.nil, h.fit, ?_⟩
  rcases h.at' with h0 | ⟨b, off, e, hc⟩
  · exact .inl h0
  · exact .inr ⟨b, off, e, fun i hi => cell_later hb (hc i hi)⟩

theorem Tryz.elemInt : Tryz.prog.underlying 96 = some (.slice (Tryz.prog.elem 96)) := by kernel_rfl

/-- 'xs[i]' for the walk: its address, and what lies there. -/
theorem Is.idx {w : World} {ao : Option Addr} {n c : Nat} {xs : List Int} (h : Is w ao n c xs) {i : Nat} (hi : i < n) (I : Int) (hI : I = i) :
    ∃ b o, (∀ wx, (Instr.indexAt 96 (.slice ao n c) (.int .i64 I)).run Tryz.prog wx = .ok (.pointer (some ⟨b, o, none⟩)) wx) ∧ w.cell? ⟨b, o, none⟩ = some (.int .i64 (xs[i]?.getD 0)) := by
  subst hI
  rcases h.at' with h0 | ⟨b, off, rfl, hc⟩
  · omega
  · refine ⟨b, off + i, fun wx => ?_, hc i hi⟩
    have hs : ∀ w : World, (sizeOf (Tryz.prog.elem 96)).run Tryz.prog w = .ok 1 w := by intro w; kernel_rfl
    rw [run_indexAt_slice wx 96 _ n c .i64 (i : Int) Tryz.elemInt]
    simp [hs, hi, Addr.add_lit, Result.andThen]

/-- 'b[i]' of bytes for the walk. -/
theorem Bs.idx {w : World} {ao : Option Addr} {n c : Nat} {bs : List Int} (h : Bs w ao n c bs) {i : Nat} (hi : i < n) (I : Int) (hI : I = i) :
    ∃ b o, (∀ wx, (Instr.indexAt 31 (.slice ao n c) (.int .i64 I)).run Tryz.prog wx = .ok (.pointer (some ⟨b, o, none⟩)) wx) ∧ w.cell? ⟨b, o, none⟩ = some (.int .u8 (bs[i]?.getD 0)) := by
  subst hI
  rcases h.at' with h0 | ⟨b, off, rfl, hc⟩
  · omega
  · refine ⟨b, off + i, fun wx => ?_, by rw [hc i hi]; simp⟩
    rw [run_indexAt_slice wx 31 _ n c .i64 (i : Int) Tryz.elemBytes]
    simp [Tryz.sizeByte, hi, Addr.add_lit, Result.andThen]

/-- The ints xs in a row of the call's own, from block B on. -/
structure IMine (B : Nat) (w : World) (ao : Option Addr) (n c : Nat) (xs : List Int) : Prop where
  len : xs.length = n
  own : w.ownsRow B 3 1 (.slice ao n c) n (xs.map (Value.int .i64))
  fit : I64 xs

theorem IMine.nought (B : Nat) (w : World) : IMine B w .none 0 0 [] := ⟨rfl, World.ownsRow_nil _ _ _ _, I64.nil⟩

theorem IMine.is {B : Nat} {w : World} {ao : Option Addr} {n c : Nat} {xs : List Int} (h : IMine B w ao n c xs) : Is w ao n c xs := by
  have hl := h.len
  rcases h.own.2 with ⟨hv, h0⟩ | ⟨g, cap, cur, hv, hg, hh, hle, hmax, hsz, htake⟩
  · simp only [Value.slice.injEq] at hv
    obtain ⟨rfl, rfl, rfl⟩ := hv
    exact ⟨h.len, Nat.le_refl _, by omega, fun _ => rfl, h.fit, .inl rfl⟩
  · simp only [Value.slice.injEq] at hv
    obtain ⟨rfl, _, rfl⟩ := hv
    refine ⟨h.len, hle, by unfold maxLen at hmax; omega, (fun hq => by cases hq), h.fit, .inr ⟨g, 0, rfl, fun i hi => ?_⟩⟩
    have := h.own.cells (g := g) rfl i (.int .i64 (xs[i]?.getD 0)) (by simp [List.getElem?_eq_getElem (show i < xs.length by omega)])
    rw [Addr.add_lit] at this
    exact this

theorem IMine.mono {B B' : Nat} {w : World} {ao : Option Addr} {n c : Nat} {xs : List Int} (h : IMine B w ao n c xs) (hB : B' ≤ B) : IMine B' w ao n c xs := by
  refine ⟨h.len, ⟨h.own.1, ?_⟩, h.fit⟩
  rcases h.own.2 with hv | ⟨g, cap, cur, hv, hg, r⟩
  · exact .inl hv
  · exact .inr ⟨g, cap, cur, hv, by omega, r⟩

theorem IMine.later {B : Nat} {w w' : World} {ao : Option Addr} {n c : Nat} {xs : List Int} (h : IMine B w ao n c xs) (hb : Below w.heap.size w w') : IMine B w' ao n c xs := by
  refine ⟨h.len, ⟨h.own.1, ?_⟩, h.fit⟩
  rcases h.own.2 with hv | ⟨g, cap, cur, hv, hg, hh, r⟩
  · exact .inl hv
  · exact .inr ⟨g, cap, cur, hv, hg, by rw [hb.block g (Array.getElem?_eq_some_iff.1 hh).1]; exact hh, r⟩

theorem Is.news {w : World} {ad : Addr} {n c : Nat} {xs : List Int} (h : Is w (some ad) n c xs) : ∀ j u, (xs.map (Value.int .i64))[j]? = some u → w.cell? (ad.add j) = some u := by
  intro j u hu
  have hj : j < xs.length := by
    have := (List.getElem?_eq_some_iff.1 hu).1
    simpa using this
  rcases h.at' with h0 | ⟨b, off, e, hc⟩
  · have := h.len; omega
  · obtain rfl := Option.some.inj e
    have := hc j (by have := h.len; omega)
    rw [Addr.add_lit, this]
    simp [List.getElem?_eq_getElem hj] at hu
    simp [hu, List.getElem?_eq_getElem hj]

/-- 'append(out, xs...)', out of the call's own. -/
theorem wpList_iapp {ops : Array Oper} {rest : List Oper} {o : Oper} {a : Act} {w : World} {Q : Exit → Act → World → Prop} (hgd : o.guard = none) (s x : Operand)
    (ho : o.op = .call { callee := .builtin .append, args := #[s, x], argTypes := #[96, 96] })
    (B : Nat) (ao : Option Addr) (n c : Nat) (bs : List Int) (hs : a.eval s = .slice ao n c) (hm : IMine B w ao n c bs)
    (ao' : Option Addr) (m c' : Nat) (cs : List Int) (hx : a.eval x = .slice ao' m c') (hb : Is w ao' m c' cs) (hbound : n + m ≤ 1000000000000) (hB : B ≤ w.heap.size)
    (h : ∀ ao1 c1 w1, IMine B w1 ao1 (n + m) c1 (bs ++ cs) → Below B w w1 → wpList Tryz.prog ops Q rest (a.put o.dst (.slice ao1 (n + m) c1)) w1) :
    wpList Tryz.prog ops Q (o :: rest) a w := by
  obtain ⟨i0, hi, hz0, hz1, hz2⟩ := info_parts Tryz.infoInt
  have hlen := hm.len
  have hlen' := hb.len
  cases ao' with
  | none =>
    have hc' := hb.nil rfl
    have hm0 : m = 0 := by have := hb.le; omega
    subst hm0
    subst hc'
    have hcs : cs = [] := List.eq_nil_of_length_eq_zero hlen'
    subst hcs
    refine wpList_append_own_none hgd s x 96 ho B 3 i0 1 Tryz.underlying96 hi _ _ _ hs hm.own hx ?_
    exact h ao c w (by simpa using hm) (Below.refl _ _)
  | some ad =>
    refine wpList_append_own w hgd s x 96 ho B 3 i0 (.int .i64 0) 1 8 Tryz.underlying96 hi hz0 hz1 hz2 rfl (by decide) _ _ _ hs hm.own ad m c' (cs.map (Value.int .i64)) hx (by simp [hlen']) hb.news (ints_oneCell _ _) (by unfold maxLen; omega) (by omega) hB ?_
    intro v' w' hown hgrow _
    rw [← List.map_append] at hown
    have hbel : Below B w w' := (Below.refl B w).grown hgrow hB (fun k hk => (hm.own.lt k hk).1)
    have hex : ∃ ao1 c1, v' = .slice ao1 (n + m) c1 := by
      rcases hown.2 with ⟨hv, h0⟩ | ⟨g, cap, cur, hv, _⟩
      · exact ⟨.none, 0, by rw [hv, h0]⟩
      · exact ⟨_, _, hv⟩
    obtain ⟨ao1, c1, hv⟩ := hex
    subst hv
    exact h ao1 c1 w' ⟨by simp [hlen, hlen'], hown, hm.fit.app hb.fit⟩ hbel

/-- 'make([]int, n)'. -/
theorem wpList_imkFull {ops : Array Oper} {rest : List Oper} {o : Oper} {a : Act} {w : World} {Q : Exit → Act → World → Prop} (hgd : o.guard = none) (l c : Operand)
    (ho : o.op = Op.makeSlice 96 l c) (kl kc : IntKind) (L C : Int) (n : Nat) (hl : a.eval l = .int kl L) (hc : a.eval c = .int kc C) (hL : L = (n : Int)) (hC : C = (n : Int)) (hbound : n ≤ 1000000000000)
    (h : ∀ w1, IMine w.heap.size w1 (some ⟨w.heap.size, 0, none⟩) n n (List.replicate n 0) → Below w.heap.size w w1 → w.heap.size < w1.heap.size → wpList Tryz.prog ops Q rest (a.put o.dst (.slice (some ⟨w.heap.size, 0, none⟩) n n)) w1) :
    wpList Tryz.prog ops Q (o :: rest) a w := by
  obtain ⟨i0, hi, hz0, hz1, hz2⟩ := info_parts Tryz.infoInt
  refine wpList_make_full w hgd l c 96 ho w.heap.size 3 i0 (.int .i64 0) 1 Tryz.underlying96 hi hz0 hz1 kl kc L C n hl hc hL hC (by rw [hz2]; omega) (by unfold maxLen; omega) (Nat.le_refl _) ?_
  intro w1 hown hgrow
  rw [show (Value.int IntKind.i64 0).cells = #[Value.int IntKind.i64 0] from rfl, toList_madeCells_one, Nat.mul_one, ← List.map_replicate] at hown
  have hm : IMine w.heap.size w1 (some ⟨w.heap.size, 0, none⟩) n n (List.replicate n 0) := ⟨by simp, hown, fun x hx => by have := List.eq_of_mem_replicate hx; omega⟩
  have hlt : w.heap.size < w1.heap.size := (hown.lt w.heap.size rfl).2
  exact h w1 hm ((Below.refl _ w).grown hgrow (Nat.le_refl _) (fun k hk => by cases hk)) hlt

/-- 'out[i] = v', out of the call's own. -/
theorem IMine.stored {B : Nat} {w : World} {g n c : Nat} {xs : List Int} (h : IMine B w (some ⟨g, 0, none⟩) n c xs) (i : Nat) (v : Int) (h0 : -9223372036854775808 ≤ v) (h1 : v ≤ 9223372036854775807) : IMine B (w.setCell ⟨g, i, none⟩ (.int .i64 v)) (some ⟨g, 0, none⟩) n c (xs.set i v) := by
  refine ⟨by simp [h.len], ?_, fun x hx => ?_⟩
  · rw [List.map_set]
    exact (h.own.stored i _).1
  · rcases List.mem_or_eq_of_mem_set hx with hh | hh
    · exact h.fit x hh
    · omega

theorem IMine.free {B : Nat} {w : World} {g n c : Nat} {xs : List Int} (h : IMine B w (some ⟨g, 0, none⟩) n c xs) (i : Nat) : w.frozen? ⟨g, i, none⟩ = false := h.own.frozenAt i
theorem IMine.block {B : Nat} {w : World} {g n c : Nat} {xs : List Int} (h : IMine B w (some ⟨g, 0, none⟩) n c xs) : B ≤ g ∧ g < w.heap.size := h.own.lt g rfl

theorem IMine.keep {B : Nat} {w w' : World} {ao : Option Addr} {n c : Nat} {xs : List Int} (h : IMine B w ao n c xs) (hk : ∀ k, B ≤ k → w'.heap[k]? = w.heap[k]?) : IMine B w' ao n c xs := by
  refine ⟨h.len, ⟨h.own.1, ?_⟩, h.fit⟩
  rcases h.own.2 with hv | ⟨g, cap, cur, hv, hg, hh, r⟩
  · exact .inl hv
  · exact .inr ⟨g, cap, cur, hv, hg, by rw [hk g hg]; exact hh, r⟩
theorem IMine.below {B : Nat} {w : World} {ao : Option Addr} {n c : Nat} {xs : List Int} (h : IMine B w ao n c xs) {a : Addr} (ha : a.block < B) (u : Value) : IMine B (w.setCell a u) ao n c xs :=
  ⟨h.len, ownsRow_setCell_below h.own ha u, h.fit⟩

/-- A slice of ints that is written out in the program's text. -/
theorem Is.lit (w : World) (l : List Int) (h : I64 l) (hl : l.length ≤ 1000) : Is (w.alloc (.cells (l.map (Value.int .i64)).toArray 3)) (some ⟨w.heap.size, 0, none⟩) l.length l.length l := by
  refine ⟨rfl, Nat.le_refl _, by omega, (fun e => by cases e), h, .inr ⟨w.heap.size, 0, rfl, fun i hi => ?_⟩⟩
  rw [Nat.zero_add]
  simp [hi]

/-- '[]int{}'. -/
theorem IMine.empty (w : World) : IMine w.heap.size (w.alloc (.cells #[] 3)) (some ⟨w.heap.size, 0, none⟩) 0 0 [] :=
  ⟨rfl, World.ownsRow_made w #[] 0 (Nat.le_refl _) (by unfold maxLen; omega) rfl, I64.nil⟩

/-- The slice of one int that 'append(out, x)' lays first. -/
theorem Is.one (w : World) (v : Int) (h0 : -9223372036854775808 ≤ v) (h1 : v ≤ 9223372036854775807) : Is (w.alloc (.cells #[.int .i64 v] 3)) (some ⟨w.heap.size, 0, none⟩) 1 1 [v] :=
  Is.lit w [v] (I64.one h0 h1) (by simp)

/-- A slice of ints that came in. -/
theorem is_of_row {w : World} {a : Option Addr} {len cap : Nat} {zs : List Int} (h : (a = none ∧ len = 0 ∧ cap = 0 ∧ zs = []) ∨
  ∃ x, a = some x ∧ len ≤ cap ∧ cap ≤ maxLen ∧ zs.length = cap ∧ (∀ i, i < zs.length → w.cell? (x.add i) = some (.int .i64 (zs.getD i 0))) ∧ ∀ n ∈ zs, (Lit.int .i64 n).wf = true) : Is w a len cap (zs.take len) := by
  rcases h with ⟨rfl, rfl, rfl, rfl⟩ | ⟨x, rfl, hl, hm, hz, hc, hw⟩
  · exact Is.nought w
  · unfold maxLen at hm
    refine ⟨by simp; omega, hl, by omega, (fun e => by cases e), fun y hy => ?_, ?_⟩
    · have := bounds_i64 (hw y (List.mem_of_mem_take hy))
      omega
    · by_cases h0 : len = 0
      · exact .inl h0
      · right
        obtain ⟨b, off, spot⟩ := x
        have h1 := hc 0 (by omega)
        have hspot : spot = none := by simpa [Addr.add] using World.cell?_spot h1
        subst hspot
        refine ⟨b, off, rfl, fun i hi => ?_⟩
        have := hc i (by omega)
        rw [Addr.add_lit] at this
        rw [this]
        simp [hi]

end Go.Proofs.YtnoabdafmgmenaaGreatDoor

namespace Go.Proofs.YtnoabdafmgmenaaGreatDoor
open Go
set_option linter.unusedVariables false

theorem and1_u8 (y : Int) (h0 : 0 ≤ y) (h1 : y ≤ 255) : bits .and .u8 y 1 = y % 2 := by
  rw [u8_and y 1 h0 (by omega) (by omega) (by omega), show (1 : Int).toNat = 1 from rfl, nat_mask1]
  omega
theorem and1_i64 (n : Int) : bits .and .i64 n 1 = n % 2 := by
  have h1 : (BitVec.ofInt 64 1).toNat = 2 ^ 1 - 1 := by decide
  have key : (BitVec.ofInt 64 n &&& BitVec.ofInt 64 1).toNat = (n % ((2 ^ 64 : Nat) : Int)).toNat % 2 ^ 1 := by
    rw [BitVec.toNat_and, BitVec.toNat_ofInt, h1, Nat.and_two_pow_sub_one_eq_mod]
  show IntKind.i64.wrap ((BitVec.ofInt 64 n &&& BitVec.ofInt 64 1).toNat : Nat) = n % 2
  rw [key, IntKind.wrap_i64]
  omega
theorem or1_i64 (x b : Int) (h0 : 0 ≤ x) (h1 : x ≤ 1000000000) (b0 : 0 ≤ b) (b1 : b ≤ 1) : bits .or .i64 (x * 2) b = x * 2 + b := by
  obtain ⟨X, rfl⟩ := Int.eq_ofNat_of_zero_le h0
  obtain ⟨B, rfl⟩ := Int.eq_ofNat_of_zero_le b0
  have hX : X ≤ 1000000000 := by omega
  have e1 : BitVec.ofInt 64 ((X : Int) * 2) = BitVec.ofNat 64 (X * 2) := by rw [show (X : Int) * 2 = ((X * 2 : Nat) : Int) by omega, BitVec.ofInt_natCast]
  show IntKind.i64.wrap ((BitVec.ofInt 64 ((X : Int) * 2) ||| BitVec.ofInt 64 (B : Int)).toNat : Int) = _
  rw [e1, BitVec.ofInt_natCast, BitVec.toNat_or, BitVec.toNat_ofNat, BitVec.toNat_ofNat, Nat.mod_eq_of_lt (show X * 2 < 2 ^ 64 by omega), Nat.mod_eq_of_lt (show B < 2 ^ 64 by omega), nat_join 1 (X * 2) B (by omega) (by omega), IntKind.wrap_i64]
  omega
theorem or_u8 (a b : Int) (k : Nat) (hk : k < 8) (a0 : 0 ≤ a) (a1 : a < 2 ^ k) (b0 : 0 ≤ b) (b1 : b ≤ 1) : bits .or .u8 a (b * 2 ^ k) = a + b * 2 ^ k := by
  have hp : (2 : Int) ^ k ≤ 128 := by
    have := Nat.pow_le_pow_right (show 0 < 2 by omega) (show k ≤ 7 by omega)
    have h2 : (2 : Int) ^ k ≤ 2 ^ 7 := by exact_mod_cast this
    omega
  have hb : b = 0 ∨ b = 1 := by omega
  have hm : 0 ≤ b * 2 ^ k ∧ b * 2 ^ k ≤ 128 := by rcases hb with h | h <;> subst h <;> omega
  obtain ⟨A, rfl⟩ := Int.eq_ofNat_of_zero_le a0
  obtain ⟨B, rfl⟩ := Int.eq_ofNat_of_zero_le b0
  have e : (B : Int) * 2 ^ k = ((B * 2 ^ k : Nat) : Int) := by rw [Int.natCast_mul, Int.natCast_pow]; rfl
  have hA : A < 2 ^ k := by exact_mod_cast a1
  rw [e] at hm ⊢
  rw [u8_or_nat A (B * 2 ^ k) (by omega) (by omega), Nat.or_comm, nat_join k (B * 2 ^ k) A (by simp) hA]
  omega

end Go.Proofs.YtnoabdafmgmenaaGreatDoor

namespace Go.Proofs.YtnoabdafmgmenaaGreatDoor
open Go.RowKit
set_option linter.unusedVariables false
set_option linter.unusedSimpArgs false

/-- Block k is the one that a slice lies in. -/
def ob (ao : Option Addr) (k : Nat) : Prop := ∃ a, ao = some a ∧ a.block = k

/-- Only block g has changed; there may be new ones. -/
structure Gb (g : Nat) (w w' : World) : Prop where
  os : w'.os = w.os
  tape : w'.tape = w.tape
  output : w'.output = w.output
  size : w.heap.size ≤ w'.heap.size
  block : ∀ k, k < w.heap.size → k ≠ g → w'.heap[k]? = w.heap[k]?
theorem Gb.refl (g : Nat) (w : World) : Gb g w w := ⟨rfl, rfl, rfl, Nat.le_refl _, fun _ _ _ => rfl⟩
theorem Gb.trans {g : Nat} {a b c : World} (h : Gb g a b) (k : Gb g b c) : Gb g a c :=
  ⟨k.os.trans h.os, k.tape.trans h.tape, k.output.trans h.output, Nat.le_trans h.size k.size, fun i hi hn => (k.block i (Nat.lt_of_lt_of_le hi h.size) hn).trans (h.block i hi hn)⟩
theorem Gb.of {g : Nat} {w w' : World} (h : Below w.heap.size w w') : Gb g w w' := ⟨h.os, h.tape, h.output, h.size, fun k hk _ => h.block k hk⟩
theorem Gb.drew {g : Nat} {w w' : World} (h : Gb g w w') : Gb g w w'.drew := ⟨h.os, h.tape, h.output, h.size, h.block⟩
theorem Gb.drewN {g : Nat} {w w' : World} (h : Gb g w w') (n : Nat) : Gb g w (w'.drewN n) := ⟨h.os, h.tape, h.output, h.size, h.block⟩
theorem Gb.set {g : Nat} {w w' : World} (h : Gb g w w') (i : Nat) (u : Value) : Gb g w (w'.setCell ⟨g, i, none⟩ u) :=
  h.trans ⟨rfl, rfl, rfl, by simp, fun k _ hk => heap_setCell_other w' ⟨g, i, none⟩ k u hk⟩

theorem Gb.cell {g : Nat} {w w' : World} (h : Gb g w w') {a : Addr} (hk : a.block < w.heap.size) (hn : a.block ≠ g) : w'.cell? a = w.cell? a := World.cell?_of_block (w := w) (h.block a.block hk hn)

/-- Only block g and the row of what was told have changed; there may be new ones, and that row may lie in one. -/
structure Fr (g : Nat) (ao : Option Addr) (w : World) (ao' : Option Addr) (w' : World) : Prop where
  os : w'.os = w.os
  tape : w'.tape = w.tape
  output : w'.output = w.output
  size : w.heap.size ≤ w'.heap.size
  block : ∀ k, k < w.heap.size → k ≠ g → ¬ ob ao k → w'.heap[k]? = w.heap[k]?
  src : ∀ k, ob ao' k → ob ao k ∨ w.heap.size ≤ k
theorem Fr.refl (g : Nat) (ao : Option Addr) (w : World) : Fr g ao w ao w := ⟨rfl, rfl, rfl, Nat.le_refl _, fun _ _ _ _ => rfl, fun k h => .inl h⟩
theorem Fr.trans {g : Nat} {x y z : Option Addr} {a b c : World} (h : Fr g x a y b) (k : Fr g y b z c) : Fr g x a z c := by
  refine ⟨k.os.trans h.os, k.tape.trans h.tape, k.output.trans h.output, Nat.le_trans h.size k.size, fun i hi hn ho => ?_, fun i hi => ?_⟩
  · rw [k.block i (Nat.lt_of_lt_of_le hi h.size) hn, h.block i hi hn ho]
    intro hy
    rcases h.src i hy with h1 | h1
    · exact ho h1
    · omega
  · rcases k.src i hi with h1 | h1
    · exact h.src i h1
    · exact .inr (Nat.le_trans h.size h1)
theorem Gb.fr {g : Nat} {w w' : World} (h : Gb g w w') (ao : Option Addr) : Fr g ao w ao w' := ⟨h.os, h.tape, h.output, h.size, fun k hk hn _ => h.block k hk hn, fun k h => .inl h⟩
theorem Fr.drew {g : Nat} {x y : Option Addr} {w w' : World} (h : Fr g x w y w') : Fr g x w y w'.drew := ⟨h.os, h.tape, h.output, h.size, h.block, h.src⟩
theorem Fr.drewN {g : Nat} {x y : Option Addr} {w w' : World} (h : Fr g x w y w') (n : Nat) : Fr g x w y (w'.drewN n) := ⟨h.os, h.tape, h.output, h.size, h.block, h.src⟩

theorem Mine.ob {B : Nat} {w : World} {ao : Option Addr} {n c : Nat} {bs : List Int} (h : Mine B w ao n c bs) {k : Nat} (hk : ob ao k) : B ≤ k ∧ k < w.heap.size := by
  obtain ⟨a, rfl, rfl⟩ := hk
  rcases h.own.2 with ⟨hv, _⟩ | ⟨g, cap, cur, hv, hg, hh, _⟩
  · simp at hv
  · simp only [Value.slice.injEq, Option.some.injEq] at hv
    obtain ⟨rfl, _⟩ := hv
    exact ⟨hg, (Array.getElem?_eq_some_iff.1 hh).1⟩
theorem Mine.keep {B : Nat} {w w' : World} {ao : Option Addr} {n c : Nat} {bs : List Int} (h : Mine B w ao n c bs) (hk : ∀ k, B ≤ k → k < w.heap.size → w'.heap[k]? = w.heap[k]?) : Mine B w' ao n c bs := by
  refine ⟨h.len, ⟨h.own.1, ?_⟩, h.byt⟩
  rcases h.own.2 with hv | ⟨g, cap, cur, hv, hg, hh, r⟩
  · exact .inl hv
  · exact .inr ⟨g, cap, cur, hv, hg, by rw [hk g hg (Array.getElem?_eq_some_iff.1 hh).1]; exact hh, r⟩
theorem IMine.ob {B : Nat} {w : World} {ao : Option Addr} {n c : Nat} {bs : List Int} (h : IMine B w ao n c bs) {k : Nat} (hk : ob ao k) : B ≤ k ∧ k < w.heap.size := by
  obtain ⟨a, rfl, rfl⟩ := hk
  rcases h.own.2 with ⟨hv, _⟩ | ⟨g, cap, cur, hv, hg, hh, _⟩
  · simp at hv
  · simp only [Value.slice.injEq, Option.some.injEq] at hv
    obtain ⟨rfl, _⟩ := hv
    exact ⟨hg, (Array.getElem?_eq_some_iff.1 hh).1⟩
theorem IMine.keep' {B : Nat} {w w' : World} {ao : Option Addr} {n c : Nat} {bs : List Int} (h : IMine B w ao n c bs) (hk : ∀ k, B ≤ k → k < w.heap.size → w'.heap[k]? = w.heap[k]?) : IMine B w' ao n c bs := by
  refine ⟨h.len, ⟨h.own.1, ?_⟩, h.fit⟩
  rcases h.own.2 with hv | ⟨g, cap, cur, hv, hg, hh, r⟩
  · exact .inl hv
  · exact .inr ⟨g, cap, cur, hv, hg, by rw [hk g hg (Array.getElem?_eq_some_iff.1 hh).1]; exact hh, r⟩

/-- 'append(out, xs...)', out of the call's own: which block has changed. -/
theorem wpList_appF {ops : Array Oper} {rest : List Oper} {o : Oper} {a : Act} {w : World} {Q : Exit → Act → World → Prop} (hgd : o.guard = none) (s x : Operand)
    (ho : o.op = .call { callee := .builtin .append, args := #[s, x], argTypes := #[31, 31] })
    (B : Nat) (ao : Option Addr) (n c : Nat) (bs : List Int) (hs : a.eval s = .slice ao n c) (hm : Mine B w ao n c bs)
    (ad : Addr) (m c' : Nat) (cs : List Int) (hx : a.eval x = .slice (some ad) m c') (hb : Bs w (some ad) m c' cs) (hbound : n + m ≤ 140737488355328) (hB : B ≤ w.heap.size)
    (h : ∀ ao1 c1 w1, Mine B w1 ao1 (n + m) c1 (bs ++ cs) → w.grownBy w1 (Value.slice ao n c).ownBlock → (∀ k, ob ao1 k → ob ao k ∨ w.heap.size ≤ k) → wpList Tryz.prog ops Q rest (a.put o.dst (.slice ao1 (n + m) c1)) w1) :
    wpList Tryz.prog ops Q (o :: rest) a w := by
  obtain ⟨i0, hi, hz0, hz1, hz2⟩ := info_parts Tryz.infoByte
  have hlen := hm.len
  have hlen' := hb.len
  refine wpList_append_own_at w hgd s x 31 ho B 5 i0 (.int .u8 0) 1 1 Tryz.underlying31 hi hz0 hz1 hz2 rfl (by decide) _ _ _ hs hm.own ad m c' (cs.map (Value.int .u8)) hx (by simp [hlen']) hb.news (ints_oneCell _ _) (by unfold maxLen; omega) (by omega) hB ?_
  intro v' w' hown hgrow _ hsrc
  rw [← List.map_append] at hown
  have hex : ∃ ao1 c1, v' = .slice ao1 (n + m) c1 := by
    rcases hown.2 with ⟨hv, h0⟩ | ⟨g, cap, cur, hv, _⟩
    · exact ⟨.none, 0, by rw [hv, h0]⟩
    · exact ⟨_, _, hv⟩
  obtain ⟨ao1, c1, hv⟩ := hex
  subst hv
  refine h ao1 c1 w' ⟨by simp [hlen, hlen'], hown, hm.byt.app hb.byt⟩ hgrow fun k hk => ?_
  obtain ⟨q, rfl, rfl⟩ := hk
  rcases hsrc with hq | hq
  · left
    cases ao with
    | none => simp [Value.ownBlock] at hq
    | some z => exact ⟨z, rfl, by simpa [Value.ownBlock] using hq.symm⟩
  · right
    simp [Value.ownBlock] at hq
    omega
/-- 'append(out, xs...)' at a step of a region that draws its order. -/
theorem step_appF {ops : Array Oper} {o : Oper} {a : Act} {w : World} {K : Act → World → Prop} {Q : Exit → Act → World → Prop} {G : Prop} (hgd : o.guard = none) (s x : Operand)
    (ho : o.op = .call { callee := .builtin .append, args := #[s, x], argTypes := #[31, 31] })
    (B : Nat) (ao : Option Addr) (n c : Nat) (bs : List Int) (hs : a.eval s = .slice ao n c) (hm : Mine B w ao n c bs)
    (ad : Addr) (m c' : Nat) (cs : List Int) (hx : a.eval x = .slice (some ad) m c') (hb : Bs w (some ad) m c' cs) (hbound : n + m ≤ 140737488355328) (hB : B ≤ w.heap.size)
    (h : ∀ ao1 c1 w1, Mine B w1 ao1 (n + m) c1 (bs ++ cs) → w.grownBy w1 (Value.slice ao n c).ownBlock → (∀ k, ob ao1 k → ob ao k ∨ w.heap.size ≤ k) → K (a.put o.dst (.slice ao1 (n + m) c1)) w1) :
    if Region.wanted o (yielded ops a.tmps) = true then Oper.wp Tryz.prog o a w K Q else G := by
  have hw : Region.wanted o (yielded ops a.tmps) = true := by simp [Region.wanted, hgd]
  rw [if_pos hw]
  obtain ⟨i0, hi, hz0, hz1, hz2⟩ := info_parts Tryz.infoByte
  have hlen := hm.len
  have hlen' := hb.len
  obtain ⟨v', w', hr, hown, hgrow, _, hsrc⟩ := run_append_own_at (P := Tryz.prog) w B 31 o.type 5 i0 (.int .u8 0) 1 1 Tryz.underlying31 hi hz0 hz1 hz2 rfl (by decide) _ _ _ hm.own ad m c' (cs.map (Value.int .u8)) (by simp [hlen']) hb.news (ints_oneCell _ _) (by unfold maxLen; omega) (by omega) hB
  rw [← List.map_append] at hown
  have hex : ∃ ao1 c1, v' = .slice ao1 (n + m) c1 := by
    rcases hown.2 with ⟨hv, h0⟩ | ⟨g, cap, cur, hv, _⟩
    · exact ⟨.none, 0, by rw [hv, h0]⟩
    · exact ⟨_, _, hv⟩
  obtain ⟨ao1, c1, hv⟩ := hex
  subst hv
  unfold Oper.wp execOp
  simp only [ho, resolve, invoke, builtin, Sem.run_bind, Sem.run_pure, Result.andThen_ok, List.map_toArray, List.map_cons, List.map_nil, hs, hx, hr]
  refine h ao1 c1 w' ⟨by simp [hlen, hlen'], hown, hm.byt.app hb.byt⟩ hgrow fun k hk => ?_
  obtain ⟨q, rfl, rfl⟩ := hk
  rcases hsrc with hq | hq
  · left
    cases ao with
    | none => simp [Value.ownBlock] at hq
    | some z => exact ⟨z, rfl, by simpa [Value.ownBlock] using hq.symm⟩
  · right
    simp [Value.ownBlock] at hq
    omega
theorem fr_app {g : Nat} {oo : Option Addr} {w0 w1 : World} {n c : Nat} (hg : g < w0.heap.size) {oo1 : Option Addr} (hgr : w0.grownBy w1 (Value.slice oo n c).ownBlock) (hs : ∀ k, ob oo1 k → ob oo k ∨ w0.heap.size ≤ k) : Fr g oo w0 oo1 w1 := by
  refine ⟨hgr.os, hgr.tape, hgr.output, hgr.size, fun k hk hn ho => hgr.block k hk fun e => ?_, hs⟩
  cases oo with
  | none => simp [Value.ownBlock] at e
  | some z => exact ho ⟨z, rfl, by simpa [Value.ownBlock] using e.symm⟩

theorem grown_at {w w1 : World} {ao : Option Addr} {n c k : Nat} (hgr : w.grownBy w1 (Value.slice ao n c).ownBlock) (hk : k < w.heap.size) (ho : ¬ ob ao k) : w1.heap[k]? = w.heap[k]? :=
  hgr.block k hk fun e => by
    cases ao with
    | none => simp [Value.ownBlock] at e
    | some z => exact ho ⟨z, rfl, by simpa [Value.ownBlock] using e.symm⟩

theorem below_drew (w : World) : Below w.heap.size w w.drew := ⟨rfl, rfl, rfl, Nat.le_refl _, fun _ _ => rfl⟩

end Go.Proofs.YtnoabdafmgmenaaGreatDoor

namespace Go.Proofs.YtnoabdafmgmenaaGreatDoor
open Go.RowKit
set_option linter.unusedVariables false
set_option linter.unusedSimpArgs false

/-- A piece as the program has it. -/
def pv (p : Pc) : Array Value := #[.int .i64 p.l, .int .i64 p.d, .int .u8 p.b]
/-- Numbers that a piece may have. -/
structure Pok (p : Pc) : Prop where
  l0 : -9223372036854775808 ≤ p.l
  l1 : p.l ≤ 9223372036854775807
  d0 : -9223372036854775808 ≤ p.d
  d1 : p.d ≤ 9223372036854775807
  b0 : 0 ≤ p.b
  b1 : p.b ≤ 255
theorem pv_one (p : Pc) : (pv p).all (·.oneCell') = true := by simp [pv, Value.oneCell']
theorem pv_size (p : Pc) : (pv p).size = 3 := rfl

/-- Block q is a variable that holds a piece. -/
def Px (w : World) (q : Nat) (p : Pc) : Prop := w.heap[q]? = some (.cells (pv p) 132 (0, 0))
theorem Px.lt {w : World} {q : Nat} {p : Pc} (h : Px w q p) : q < w.heap.size := (Array.getElem?_eq_some_iff.1 h).1
theorem Px.later {w w' : World} {q : Nat} {p : Pc} (h : Px w q p) (hb : Below w.heap.size w w') : Px w' q p := by
  unfold Px
  rw [hb.block q h.lt]
  exact h
theorem Px.gb {w w' : World} {g q : Nat} {p : Pc} (h : Px w q p) (hb : Gb g w w') (hq : q ≠ g) : Px w' q p := by
  unfold Px
  rw [hb.block q h.lt hq]
  exact h
theorem Px.c0 {w : World} {q : Nat} {p : Pc} (h : Px w q p) : w.cell? ⟨q, 0, none⟩ = some (.int .i64 p.l) := by rw [cell_of_row w q 0 _ _ _ h]; rfl
theorem Px.c1 {w : World} {q : Nat} {p : Pc} (h : Px w q p) : w.cell? ⟨q, 1, none⟩ = some (.int .i64 p.d) := by rw [cell_of_row w q 1 _ _ _ h]; rfl
theorem Px.c2 {w : World} {q : Nat} {p : Pc} (h : Px w q p) : w.cell? ⟨q, 2, none⟩ = some (.int .u8 p.b) := by rw [cell_of_row w q 2 _ _ _ h]; rfl
theorem Px.free {w : World} {q : Nat} {p : Pc} (h : Px w q p) (i : Nat) : w.frozen? ⟨q, i, none⟩ = false := frozen_of_row w q i _ _ h
theorem px_new (w : World) (p : Pc) : Px (w.alloc (.cells (pv p) 132)) w.heap.size p := heap_alloc_new w _
/-- All three cells are written. -/
theorem Px.put {w : World} {q : Nat} {p : Pc} (h : Px w q p) (p' : Pc) : Px (((w.setCell ⟨q, 0, none⟩ (.int .i64 p'.l)).setCell ⟨q, 1, none⟩ (.int .i64 p'.d)).setCell ⟨q, 2, none⟩ (.int .u8 p'.b)) q p' ∧ Gb q w (((w.setCell ⟨q, 0, none⟩ (.int .i64 p'.l)).setCell ⟨q, 1, none⟩ (.int .i64 p'.d)).setCell ⟨q, 2, none⟩ (.int .u8 p'.b)) := by
  have h1 := heap_setCell_same w q 0 _ _ (.int .i64 p'.l) h
  have h2 := heap_setCell_same _ q 1 _ _ (.int .i64 p'.d) h1
  have h3 := heap_setCell_same _ q 2 _ _ (.int .u8 p'.b) h2
  exact ⟨h3, (((Gb.refl q w).set 0 _).set 1 _).set 2 _⟩
theorem Tryz.pcSize : (Tryz.prog.info? 132).map (·.size) = some 3 := by kernel_rfl
theorem Tryz.pcZero : (Tryz.prog.info? 132).map (fun i => (i.zero, i.size)) = some (some (.agg (pv ⟨0, 0, 0⟩)), 3) := by kernel_rfl
theorem results_pc {fn : Func} {p : Tmp} (h : fn.results = #[.cell p 132]) (tmps : Array Value) (w : World) (q : Nat) (v : Pc)
    (hp : tmps.getD p undef = .pointer (some ⟨q, 0, none⟩)) (hq : Px w q v) : (results fn tmps).run Tryz.prog w = .ok (.agg (pv v)) w :=
  results_cell_row h tmps w q _ (pv v) (0, 0) _ hp hq Tryz.underlying132 rfl Tryz.pcSize

/-- A new variable. -/
theorem wpList_pcAlloc {ops : Array Oper} {rest : List Oper} {o : Oper} {a : Act} {w : World} {Q : Exit → Act → World → Prop} (hgd : o.guard = none) (ho : o.op = .alloc 132)
    (h : ∀ w1, Px w1 w.heap.size ⟨0, 0, 0⟩ → Below w.heap.size w w1 → w1.heap.size = w.heap.size + 1 → wpList Tryz.prog ops Q rest (a.put o.dst (.pointer (some ⟨w.heap.size, 0, none⟩))) w1) : wpList Tryz.prog ops Q (o :: rest) a w := by
  refine wpList_plain hgd fun K hK' => ?_
  have hz := (zero_of_info Tryz.pcZero).1
  unfold Oper.wp
  simp [execOp, ho, Instr.alloc, hz, Result.andThen]
  exact hK' _ _ (h _ (heap_alloc_new w _) (below_alloc w _) (by simp))
theorem wpList_pcBox {ops : Array Oper} {rest : List Oper} {o : Oper} {a : Act} {w : World} {Q : Exit → Act → World → Prop} (hgd : o.guard = none) (x : Operand) (ho : o.op = .box 132 x)
    (p : Pc) (hx : a.eval x = .agg (pv p))
    (h : ∀ w1, Px w1 w.heap.size p → Below w.heap.size w w1 → w1.heap.size = w.heap.size + 1 → wpList Tryz.prog ops Q rest (a.put o.dst (.pointer (some ⟨w.heap.size, 0, none⟩))) w1) : wpList Tryz.prog ops Q (o :: rest) a w := by
  refine wpList_plain hgd fun K hK' => ?_
  unfold Oper.wp
  simp [execOp, ho, Instr.box, hx, Result.andThen]
  exact hK' _ _ (h _ (heap_alloc_new w _) (below_alloc w _) (by simp))
/-- A whole piece is read, is written. -/
theorem wpList_pcLoad {ops : Array Oper} {rest : List Oper} {o : Oper} {a : Act} {w : World} {Q : Exit → Act → World → Prop} (hgd : o.guard = none) (x : Operand) (ho : o.op = .load 132 x)
    (q : Nat) (hx : a.eval x = .pointer (some ⟨q, 0, none⟩)) (p : Pc) (hg : Px w q p)
    (h : wpList Tryz.prog ops Q rest (a.put o.dst (.agg (pv p))) w) : wpList Tryz.prog ops Q (o :: rest) a w :=
  wpList_load_row hgd _ x ho q hx _ (pv p) (0, 0) _ hg Tryz.underlying132 rfl Tryz.pcSize h
theorem wpList_pcStore {ops : Array Oper} {rest : List Oper} {o : Oper} {a : Act} {w : World} {Q : Exit → Act → World → Prop} (hgd : o.guard = none) (x y : Operand) (ho : o.op = .store 132 x y)
    (q : Nat) (p old : Pc) (hx : a.eval x = .pointer (some ⟨q, 0, none⟩)) (hy : a.eval y = .agg (pv p)) (hg : Px w q old)
    (h : ∀ w1, Px w1 q p → Gb q w w1 → w1.heap.size = w.heap.size → wpList Tryz.prog ops Q rest (a.put o.dst undef) w1) : wpList Tryz.prog ops Q (o :: rest) a w := by
  refine wpList_store_row hgd _ x y ho q (pv p) hx hy _ (pv old) hg Tryz.pcSize rfl (pv_one p) ?_
  refine h _ (setRow_heap w q _ _ _ _ hg) ⟨rfl, rfl, rfl, by simp, fun k _ hk => setRow_other w q k _ hk⟩ (by simp)

/-! A row of pieces. -/
def flatP (l : List Pc) : List Value := l.flatMap fun x => (pv x).toList
theorem flatP_len : ∀ l : List Pc, (flatP l).length = l.length * 3
  | [] => rfl
  | x :: l => by
    have h := flatP_len l
    have e : flatP (x :: l) = (pv x).toList ++ flatP l := rfl
    rw [e, List.length_append, h, show ((pv x).toList).length = 3 from rfl, List.length_cons]
    omega
theorem flatP_app (l : List Pc) (x : Pc) : flatP (l ++ [x]) = flatP l ++ (pv x).toList := by simp [flatP]
theorem flatP_at : ∀ (l : List Pc) (i j : Nat) (x : Pc), l[i]? = some x → j < 3 → (flatP l)[i * 3 + j]? = (pv x)[j]?
  | [], i, j, x, h, hj => by simp at h
  | y :: l, 0, j, x, h, hj => by
    simp at h
    subst h
    simp only [flatP, List.flatMap_cons, Nat.zero_mul, Nat.zero_add]
    rw [List.getElem?_append_left (by simpa [pv] using hj)]
    simp
  | y :: l, i + 1, j, x, h, hj => by
    simp at h
    have ih := flatP_at l i j x h hj
    simp only [flatP, List.flatMap_cons] at ih ⊢
    have hs : ((pv y).toList).length = 3 := rfl
    rw [List.getElem?_append_right (by rw [hs]; omega), hs, show (i + 1) * 3 + j - 3 = i * 3 + j by omega]
    exact ih

/-- The slice 'ao, n, c' holds the pieces l. -/
structure Ps (w : World) (ao : Option Addr) (n c : Nat) (l : List Pc) : Prop where
  len : l.length = n
  le : n ≤ c
  max : c ≤ 9223372036854775807
  nil : ao = none → c = 0
  fit : ∀ p ∈ l, Pok p
  at' : n = 0 ∨ ∃ b off, ao = some ⟨b, off, none⟩ ∧ ∀ i p, l[i]? = some p → w.cell? ⟨b, off + i * 3, none⟩ = some (.int .i64 p.l) ∧ w.cell? ⟨b, off + i * 3 + 1, none⟩ = some (.int .i64 p.d) ∧ w.cell? ⟨b, off + i * 3 + 2, none⟩ = some (.int .u8 p.b)
theorem Ps.nought (w : World) : Ps w .none 0 0 [] := ⟨rfl, Nat.le_refl _, by omega, fun _ => rfl, by simp, .inl rfl⟩
theorem Ps.later {w w' : World} {ao : Option Addr} {n c : Nat} {l : List Pc} (h : Ps w ao n c l) (hb : Below w.heap.size w w') : Ps w' ao n c l := by
  refine ⟨h.len, h.le, h.max, h.nil, h.fit, ?_⟩
  rcases h.at' with h0 | ⟨b, off, e, hc⟩
  · exact .inl h0
  · exact .inr ⟨b, off, e, fun i p hi => ⟨cell_later hb (hc i p hi).1, cell_later hb (hc i p hi).2.1, cell_later hb (hc i p hi).2.2⟩⟩
theorem Tryz.elemPcs : Tryz.prog.underlying 106 = some (.slice (Tryz.prog.elem 106)) := by kernel_rfl
/-- 'l[i]' for the walk: its address, and what lies there. -/
theorem Ps.idx {w : World} {ao : Option Addr} {n c : Nat} {l : List Pc} (h : Ps w ao n c l) {i : Nat} {p : Pc} (hi : l[i]? = some p) (I : Int) (hI : I = i) :
    ∃ b o, (∀ wx, (Instr.indexAt 106 (.slice ao n c) (.int .i64 I)).run Tryz.prog wx = .ok (.pointer (some ⟨b, o, none⟩)) wx) ∧ w.cell? ⟨b, o, none⟩ = some (.int .i64 p.l) ∧ w.cell? ⟨b, o + 1, none⟩ = some (.int .i64 p.d) ∧ w.cell? ⟨b, o + 2, none⟩ = some (.int .u8 p.b) := by
  subst hI
  have hl : i < n := by rw [← h.len]; exact (List.getElem?_eq_some_iff.1 hi).1
  rcases h.at' with h0 | ⟨b, off, rfl, hc⟩
  · omega
  · refine ⟨b, off + i * 3, fun wx => ?_, hc i p hi⟩
    have hs : ∀ w : World, (sizeOf (Tryz.prog.elem 106)).run Tryz.prog w = .ok 3 w := by intro w; kernel_rfl
    rw [run_indexAt_slice wx 106 _ n c .i64 (i : Int) Tryz.elemPcs]
    simp [hs, hl, Addr.add_lit, Result.andThen]

/-- The pieces l in a row of the call's own, from block B on. -/
structure PMine (B : Nat) (w : World) (ao : Option Addr) (n c : Nat) (l : List Pc) : Prop where
  len : l.length = n
  own : w.ownsRow B 132 3 (.slice ao n c) n (flatP l)
  fit : ∀ p ∈ l, Pok p
theorem PMine.nought (B : Nat) (w : World) : PMine B w .none 0 0 [] := ⟨rfl, World.ownsRow_nil _ _ _ _, by simp⟩
theorem PMine.ob {B : Nat} {w : World} {ao : Option Addr} {n c : Nat} {l : List Pc} (h : PMine B w ao n c l) {k : Nat} (hk : ob ao k) : B ≤ k ∧ k < w.heap.size := by
  obtain ⟨a, rfl, rfl⟩ := hk
  rcases h.own.2 with ⟨hv, _⟩ | ⟨g, cap, cur, hv, hg, hh, _⟩
  · simp at hv
  · simp only [Value.slice.injEq, Option.some.injEq] at hv
    obtain ⟨rfl, _⟩ := hv
    exact ⟨hg, (Array.getElem?_eq_some_iff.1 hh).1⟩
theorem PMine.keep {B : Nat} {w w' : World} {ao : Option Addr} {n c : Nat} {l : List Pc} (h : PMine B w ao n c l) (hk : ∀ k, Proofs.YtnoabdafmgmenaaGreatDoor.ob ao k → w'.heap[k]? = w.heap[k]?) : PMine B w' ao n c l := by
  refine ⟨h.len, ⟨h.own.1, ?_⟩, h.fit⟩
  rcases h.own.2 with hv | ⟨g, cap, cur, hv, hg, hh, r⟩
  · exact .inl hv
  · simp only [Value.slice.injEq] at hv
    obtain ⟨rfl, _, rfl⟩ := hv
    exact .inr ⟨g, _, cur, rfl, hg, by rw [hk g ⟨_, rfl, rfl⟩]; exact hh, r⟩
theorem PMine.mono {B B' : Nat} {w : World} {ao : Option Addr} {n c : Nat} {l : List Pc} (h : PMine B w ao n c l) (hB : B' ≤ B) : PMine B' w ao n c l := by
  refine ⟨h.len, ⟨h.own.1, ?_⟩, h.fit⟩
  rcases h.own.2 with hv | ⟨g, cap, cur, hv, hg, r⟩
  · exact .inl hv
  · exact .inr ⟨g, cap, cur, hv, by omega, r⟩
theorem PMine.later {B : Nat} {w w' : World} {ao : Option Addr} {n c : Nat} {l : List Pc} (h : PMine B w ao n c l) (hb : Below w.heap.size w w') : PMine B w' ao n c l :=
  h.keep fun k hk => hb.block k (h.ob hk).2
theorem PMine.ps {B : Nat} {w : World} {ao : Option Addr} {n c : Nat} {l : List Pc} (h : PMine B w ao n c l) : Ps w ao n c l := by
  have hl := h.len
  rcases h.own.2 with ⟨hv, h0⟩ | ⟨g, cap, cur, hv, hg, hh, hle, hmax, hsz, htake⟩
  · simp only [Value.slice.injEq] at hv
    obtain ⟨rfl, rfl, rfl⟩ := hv
    exact ⟨h.len, Nat.le_refl _, by omega, fun _ => rfl, h.fit, .inl rfl⟩
  · simp only [Value.slice.injEq] at hv
    obtain ⟨rfl, _, rfl⟩ := hv
    refine ⟨h.len, hle, by unfold maxLen at hmax; omega, (fun hq => by cases hq), h.fit, .inr ⟨g, 0, rfl, fun i p hi => ?_⟩⟩
    have key : ∀ j, j < 3 → w.cell? ⟨g, 0 + i * 3 + j, none⟩ = (pv p)[j]? := by
      intro j hj
      have h1 := flatP_at l i j p hi hj
      have h2 : (pv p)[j]? = some ((pv p)[j]'(by simpa [pv] using hj)) := Array.getElem?_eq_getElem _
      rw [h2] at h1 ⊢
      have := h.own.cells (g := g) rfl (i * 3 + j) _ h1
      rw [Addr.add_lit] at this
      rw [← this, Nat.add_assoc]
    exact ⟨key 0 (by omega), key 1 (by omega), key 2 (by omega)⟩

theorem Tryz.infoPc : (Tryz.prog.info? 132).map (fun i => (i.zero, i.size, i.bytes)) = some (some (.agg (pv ⟨0, 0, 0⟩)), 3, 24) := by kernel_rfl
/-- 'append(l, p)', l of the call's own. -/
theorem wpList_papp {ops : Array Oper} {rest : List Oper} {o : Oper} {a : Act} {w : World} {Q : Exit → Act → World → Prop} (hgd : o.guard = none) (s x : Operand)
    (ho : o.op = .call { callee := .builtin .append, args := #[s, x], argTypes := #[106, 106] })
    (B : Nat) (ao : Option Addr) (n c : Nat) (l : List Pc) (hs : a.eval s = .slice ao n c) (hm : PMine B w ao n c l)
    (q : Nat) (y : Pc) (hy : Pok y) (hx : a.eval x = .slice (some ⟨q, 0, none⟩) 1 1) (hb : Px w q y) (hbound : n ≤ 1000000000) (hB : B ≤ w.heap.size)
    (h : ∀ ao1 c1 w1, PMine B w1 ao1 (n + 1) c1 (l ++ [y]) → w.grownBy w1 (Value.slice ao n c).ownBlock → (∀ k, ob ao1 k → ob ao k ∨ w.heap.size ≤ k) → wpList Tryz.prog ops Q rest (a.put o.dst (.slice ao1 (n + 1) c1)) w1) :
    wpList Tryz.prog ops Q (o :: rest) a w := by
  obtain ⟨i0, hi, hz0, hz1, hz2⟩ := info_parts Tryz.infoPc
  have hlen := hm.len
  have hnews : ∀ j u, (pv y).toList[j]? = some u → w.cell? ((⟨q, 0, none⟩ : Addr).add j) = some u := by
    intro j u hu
    rw [Addr.add_lit, cell_of_row w q _ _ _ _ hb]
    simpa using hu
  have hone : ∀ u ∈ (pv y).toList, u.oneCell' = true := by
    intro u hu
    simp [pv] at hu
    rcases hu with rfl | rfl | rfl <;> rfl
  refine wpList_append_own_at w hgd s x 106 ho B 132 i0 (.agg (pv ⟨0, 0, 0⟩)) 3 24 Tryz.underlying106 hi hz0 hz1 hz2 rfl (by decide) _ _ _ hs hm.own ⟨q, 0, none⟩ 1 1 (pv y).toList hx rfl hnews hone (by unfold maxLen; omega) (by omega) hB ?_
  intro v' w' hown hgrow _ hsrc
  rw [← flatP_app] at hown
  have hex : ∃ ao1 c1, v' = .slice ao1 (n + 1) c1 := by
    rcases hown.2 with ⟨hv, h0⟩ | ⟨g, cap, cur, hv, _⟩
    · omega
    · exact ⟨_, _, hv⟩
  obtain ⟨ao1, c1, hv⟩ := hex
  subst hv
  refine h ao1 c1 w' ⟨by simp [hlen], hown, fun p hp => ?_⟩ hgrow fun k hk => ?_
  · rcases List.mem_append.1 hp with hp | hp
    · exact hm.fit p hp
    · simp at hp; subst hp; exact hy
  · obtain ⟨z, rfl, rfl⟩ := hk
    rcases hsrc with hq | hq
    · left
      cases ao with
      | none => simp [Value.ownBlock] at hq
      | some z => exact ⟨z, rfl, by simpa [Value.ownBlock] using hq.symm⟩
    · right
      simp [Value.ownBlock] at hq
      omega
end Go.Proofs.YtnoabdafmgmenaaGreatDoor

namespace Go.Proofs.YtnoabdafmgmenaaGreatDoor
open Go.RowKit
set_option linter.unusedVariables false
set_option linter.unusedSimpArgs false

theorem Bs.str {w : World} {ao : Option Addr} {n c : Nat} {bs : List Int} (h : Bs w ao n c bs) : (convert 31 9 (.slice ao n c)).run Tryz.prog w = .ok (.string (strOfNums bs)) w := by
  have hl := h.len
  rcases h.at' with h0 | ⟨b, off, rfl, hc⟩
  · subst h0
    have hb : bs = [] := List.eq_nil_of_length_eq_zero hl
    subst hb
    cases ao with
    | none => exact run_convert_bytes_nil w 31 5 Tryz.underlying31 Tryz.underlying5 0 c 9 Tryz.underlying9
    | some a =>
      rw [run_convert_bytes_string w 31 9 5 _ 0 c Tryz.underlying31 Tryz.underlying5 Tryz.underlying9, run_bytesToString w a 0 c [] (by simp [loadCells, loadCellsFrom])]
      rfl
  · exact run_convert_bytes_arg w 31 5 Tryz.underlying31 Tryz.underlying5 b off n c bs hl hc 9 Tryz.underlying9

/-- Bytes are known by the string that they make. -/
theorem nums_inj : ∀ {a b : List Int}, Byt a → Byt b → a.map (fun n => UInt8.ofNat n.toNat) = b.map (fun n => UInt8.ofNat n.toNat) → a = b
  | [], [], _, _, _ => rfl
  | [], _ :: _, _, _, h => by simp at h
  | _ :: _, [], _, _, h => by simp at h
  | x :: r, y :: s, ha, hb, h => by
    simp only [List.map_cons, List.cons.injEq] at h
    obtain ⟨h1, h2⟩ := h
    have hx := ha x (by simp)
    have hy := hb y (by simp)
    have e : x = y := by
      have := congrArg UInt8.toNat h1
      simp only [UInt8.toNat_ofNat'] at this
      omega
    rw [e, nums_inj (fun z hz => ha z (List.mem_cons_of_mem _ hz)) (fun z hz => hb z (List.mem_cons_of_mem _ hz)) h2]

theorem str_eq {a b : List Int} (ha : Byt a) (hb : Byt b) : ((strOfNums a).toList == (strOfNums b).toList) = decide (a = b) := by
  rw [Bool.eq_iff_iff]
  simp only [beq_iff_eq, decide_eq_true_eq]
  constructor
  · intro h
    apply nums_inj ha hb
    have e : ∀ l : List Int, (strOfNums l).toList = l.map (fun n => UInt8.ofNat n.toNat) := fun l => by
      rw [ByteArray.toList_eq, strOfNums_data]
    rw [e, e] at h
    exact h
  · intro h; rw [h]

set_option maxHeartbeats 400000 in
theorem sameBytes_any (ao : Option Addr) (n c : Nat) (cs : List Int) (bo : Option Addr) (m d : Nat) (bs : List Int) (w : World) (h : Bs w ao n c cs) (k : Bs w bo m d bs) :
    Calls Tryz.prog 12 #[.slice ao n c, .slice bo m d] w fun e w' => e = .returned (.bool (decide (cs = bs))) ∧ w' = w := by
  have h1 := h.str
  have h2 := k.str
  have he := hide (str_eq h.byt k.byt)
  clear h k
  go_enter Tryz.func12, Tryz.ntmps12
  go_wp2
  go_ret
  refine ⟨?_, rfl⟩
  rw [← unhide he]
  rfl

end Go.Proofs.YtnoabdafmgmenaaGreatDoor

namespace Go.Proofs.YtnoabdafmgmenaaGreatDoor
open Go.RowKit
set_option linter.unusedVariables false
set_option linter.unusedSimpArgs false

/-- Only the blocks of S have changed; there may be new ones. What is of S' behind it was of S, or is new. -/
structure Fs (S : Nat → Prop) (w : World) (S' : Nat → Prop) (w' : World) : Prop where
  os : w'.os = w.os
  tape : w'.tape = w.tape
  output : w'.output = w.output
  size : w.heap.size ≤ w'.heap.size
  block : ∀ k, k < w.heap.size → ¬ S k → w'.heap[k]? = w.heap[k]?
  src : ∀ k, S' k → S k ∨ w.heap.size ≤ k
theorem Fs.refl (S : Nat → Prop) (w : World) : Fs S w S w := ⟨rfl, rfl, rfl, Nat.le_refl _, fun _ _ _ => rfl, fun k h => .inl h⟩
theorem Fs.trans {S T U : Nat → Prop} {a b c : World} (h : Fs S a T b) (k : Fs T b U c) : Fs S a U c := by
  refine ⟨k.os.trans h.os, k.tape.trans h.tape, k.output.trans h.output, Nat.le_trans h.size k.size, fun i hi hn => ?_, fun i hi => ?_⟩
  · rw [k.block i (Nat.lt_of_lt_of_le hi h.size), h.block i hi hn]
    intro hy
    rcases h.src i hy with h1 | h1
    · exact hn h1
    · omega
  · rcases k.src i hi with h1 | h1
    · exact h.src i h1
    · exact .inr (Nat.le_trans h.size h1)
theorem Fs.weak {S S' T T' : Nat → Prop} {w w' : World} (h : Fs S w S' w') (hl : ∀ k, S k → T k) (hr : ∀ k, T' k → T k ∨ S' k) : Fs T w T' w' := by
  refine ⟨h.os, h.tape, h.output, h.size, fun k hk hn => h.block k hk (fun hs => hn (hl k hs)), fun k hk => ?_⟩
  rcases hr k hk with h1 | h1
  · exact .inl h1
  · rcases h.src k h1 with h2 | h2
    · exact .inl (hl k h2)
    · exact .inr h2
theorem Fs.of {S S' : Nat → Prop} {w w' : World} (h : Below w.heap.size w w') (hr : ∀ k, S' k → S k ∨ w.heap.size ≤ k) : Fs S w S' w' := ⟨h.os, h.tape, h.output, h.size, fun k hk _ => h.block k hk, hr⟩
theorem Fs.gb {S : Nat → Prop} {g : Nat} {w w' : World} (h : Gb g w w') (hg : S g) : Fs S w S w' :=
  ⟨h.os, h.tape, h.output, h.size, fun k hk hn => h.block k hk (fun e => hn (e ▸ hg)), fun k h => .inl h⟩
theorem Fs.drew {S S' : Nat → Prop} {w w' : World} (h : Fs S w S' w') : Fs S w S' w'.drew := ⟨h.os, h.tape, h.output, h.size, h.block, h.src⟩
theorem Fs.drewN {S S' : Nat → Prop} {w w' : World} (h : Fs S w S' w') (n : Nat) : Fs S w S' (w'.drewN n) := ⟨h.os, h.tape, h.output, h.size, h.block, h.src⟩
theorem Fs.undrew {S S' : Nat → Prop} {w w' : World} (h : Fs S w.drew S' w') : Fs S w S' w' := ⟨h.os, h.tape, h.output, h.size, h.block, h.src⟩
theorem Fs.undrewN {S S' : Nat → Prop} {w w' : World} {n : Nat} (h : Fs S (w.drewN n) S' w') : Fs S w S' w' := ⟨h.os, h.tape, h.output, h.size, h.block, h.src⟩
theorem drN_below (w : World) (n : Nat) : Below w.heap.size w (w.drewN n) := ⟨rfl, rfl, rfl, Nat.le_refl _, fun _ _ => rfl⟩
theorem Fs.below {S S' : Nat → Prop} {w w' : World} {B : Nat} (h : Fs S w S' w') (hB : B ≤ w.heap.size) (hS : ∀ k, S k → B ≤ k) : Below B w w' :=
  ⟨h.os, h.tape, h.output, h.size, fun k hk => h.block k (by omega) (fun hs => by have := hS k hs; omega)⟩
theorem Fs.set {S S' : Nat → Prop} {g : Nat} {w w' : World} (h : Fs S w S' w') (hg : S' g) (i : Nat) (u : Value) : Fs S w S' (w'.setCell ⟨g, i, none⟩ u) :=
  h.trans (Fs.gb ((Gb.refl g w').set i u) hg)

/-- A slice stays where its block stays. -/
theorem Bs.keepB {w w' : World} {ao : Option Addr} {n c : Nat} {bs : List Int} (h : Bs w ao n c bs) (hk : ∀ k, ob ao k → k < w.heap.size → w'.heap[k]? = w.heap[k]?) : Bs w' ao n c bs := by
  refine ⟨h.len, h.le, h.max, h.nil, h.byt, ?_⟩
  rcases h.at' with h0 | ⟨b, off, e, hc⟩
  · exact .inl h0
  · refine .inr ⟨b, off, e, fun i hi => ?_⟩
    have hb := hk b ⟨_, e, rfl⟩ (World.block_lt_of_cell? w _ (hc i hi))
    rw [World.cell?_of_block (w := w) (a := ⟨b, off + i, none⟩) hb]
    exact hc i hi
theorem Bs.fs {S S' : Nat → Prop} {w w' : World} {ao : Option Addr} {n c : Nat} {bs : List Int} (h : Bs w ao n c bs) (f : Fs S w S' w') (hd : ∀ k, ob ao k → ¬ S k) : Bs w' ao n c bs :=
  h.keepB fun k hk hl => f.block k hl (hd k hk)
theorem Mine.keepB {B : Nat} {w w' : World} {ao : Option Addr} {n c : Nat} {bs : List Int} (h : Mine B w ao n c bs) (hk : ∀ k, Proofs.YtnoabdafmgmenaaGreatDoor.ob ao k → w'.heap[k]? = w.heap[k]?) : Mine B w' ao n c bs := by
  refine ⟨h.len, ⟨h.own.1, ?_⟩, h.byt⟩
  rcases h.own.2 with hv | ⟨g, cap, cur, hv, hg, hh, r⟩
  · exact .inl hv
  · simp only [Value.slice.injEq] at hv
    obtain ⟨rfl, _, rfl⟩ := hv
    exact .inr ⟨g, _, cur, rfl, hg, by rw [hk g ⟨_, rfl, rfl⟩]; exact hh, r⟩
theorem Mine.fs {B : Nat} {S S' : Nat → Prop} {w w' : World} {ao : Option Addr} {n c : Nat} {bs : List Int} (h : Mine B w ao n c bs) (f : Fs S w S' w') (hd : ∀ k, Proofs.YtnoabdafmgmenaaGreatDoor.ob ao k → ¬ S k) : Mine B w' ao n c bs :=
  h.keepB fun k hk => f.block k (h.ob hk).2 (hd k hk)
theorem ob_none {k : Nat} : ¬ ob none k := by rintro ⟨a, h, _⟩; cases h
theorem ob_some {a : Addr} {k : Nat} : ob (some a) k ↔ a.block = k := ⟨fun ⟨b, h, e⟩ => by cases h; exact e, fun e => ⟨a, rfl, e⟩⟩
theorem ob_cut {ao : Option Addr} {c lo k : Nat} (h : ob (cutAt ao c lo) k) : ob ao k := by
  unfold cutAt at h
  split at h
  · exact h
  · cases ao with
    | none => exact absurd h ob_none
    | some z =>
      obtain ⟨a, e, rfl⟩ := h
      simp at e
      subst e
      refine ⟨z, rfl, ?_⟩
      unfold Addr.add
      split <;> rfl

/-- 'append(out, xs...)', out of the call's own, xs whatever it is: which block has changed. -/
theorem wpList_appS {ops : Array Oper} {rest : List Oper} {o : Oper} {a : Act} {w : World} {Q : Exit → Act → World → Prop} (hgd : o.guard = none) (s x : Operand)
    (ho : o.op = .call { callee := .builtin .append, args := #[s, x], argTypes := #[31, 31] })
    (B : Nat) (ao : Option Addr) (n c : Nat) (bs : List Int) (hs : a.eval s = .slice ao n c) (hm : Mine B w ao n c bs)
    (ao' : Option Addr) (m c' : Nat) (cs : List Int) (hx : a.eval x = .slice ao' m c') (hb : Bs w ao' m c' cs) (hbound : n + m ≤ 140737488355328) (hB : B ≤ w.heap.size)
    (h : ∀ ao1 c1 w1, Mine B w1 ao1 (n + m) c1 (bs ++ cs) → Fs (ob ao) w (ob ao1) w1 → wpList Tryz.prog ops Q rest (a.put o.dst (.slice ao1 (n + m) c1)) w1) :
    wpList Tryz.prog ops Q (o :: rest) a w := by
  obtain ⟨i0, hi, hz0, hz1, hz2⟩ := info_parts Tryz.infoByte
  cases ao' with
  | none =>
    have hc' := hb.nil rfl
    have hlen' := hb.len
    have hm0 : m = 0 := by have := hb.le; omega
    subst hm0
    subst hc'
    have hcs : cs = [] := List.eq_nil_of_length_eq_zero hlen'
    subst hcs
    refine wpList_append_own_none hgd s x 31 ho B 5 i0 1 Tryz.underlying31 hi _ _ _ hs hm.own hx ?_
    exact h ao c w (by simpa using hm) (Fs.refl _ _)
  | some ad =>
    refine wpList_appF hgd s x ho B ao n c bs hs hm ad m c' cs hx hb hbound hB ?_
    intro ao1 c1 w1 hm1 hgr hsrc
    refine h ao1 c1 w1 hm1 ⟨hgr.os, hgr.tape, hgr.output, hgr.size, fun k hk hn => grown_at hgr hk hn, hsrc⟩

end Go.Proofs.YtnoabdafmgmenaaGreatDoor
