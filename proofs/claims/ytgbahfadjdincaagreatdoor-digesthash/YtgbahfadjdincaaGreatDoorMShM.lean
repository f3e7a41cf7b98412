/-
  Lists of numbers that are bytes. No program and no memory is named here.
  What a slice of bytes is in memory, for the walks: where its bytes lie, that it stays there while new memory is made, and what 'append' to a slice of the call's own leaves. Conditions: lengths below a bound that is far above every length the statements allow.
  What a walk asks of slices of bytes and of strings besides: making, appending where there is room, literals, conversions, slices that came in. Conditions: lengths below a bound that is far above every length the statements allow.
  What a slice of uint32 is in memory, for the walks: where its numbers lie, that it stays there while new memory is made, what 'append' to a slice of the call's own leaves, what 'make' gives. Conditions: lengths below a bound that is far above every length the statements allow.
  Bits of small numbers: the last bit, a bit set behind others, a number's next bit. No program is named here.
-/
import Derived.Laws.BitsAllLaws
import Derived.Laws.BytesArg
import Derived.IntWalk
import Derived.Test.YtgbahfadjdincaaGreatDoorRows
import Derived.WalkKit
import Derived.WalkSpells
import Derived.WalkLawsBesides
import Derived.Laws.AppendOwnNone
import Derived.Lib.ConvBytes
import Derived.Lib.SlBytesConst
import Derived.OpenShut
import Derived.Laws.Bits128
namespace Go.Proofs.YtgbahfadjdincaaGreatDoor.Sha

/-- Every number of the list is a byte's. -/
def Byt (bs : List Int) : Prop := ∀ x ∈ bs, 0 ≤ x ∧ x ≤ 255

theorem Byt.nil : Byt [] := by intro x hx; cases hx
theorem Byt.app {a b : List Int} (h : Byt a) (k : Byt b) : Byt (a ++ b) := by
  intro x hx
  rcases List.mem_append.1 hx with h1 | h1
  · exact h x h1
  · exact k x h1
theorem Byt.one {x : Int} (h0 : 0 ≤ x) (h1 : x ≤ 255) : Byt [x] := by
  intro y hy
  simp at hy
  omega
theorem Byt.cons {x : Int} {r : List Int} (h0 : 0 ≤ x) (h1 : x ≤ 255) (h : Byt r) : Byt (x :: r) := Byt.app (Byt.one h0 h1) h
theorem Byt.left {a b : List Int} (h : Byt (a ++ b)) : Byt a := fun x hx => h x (List.mem_append.2 (.inl hx))
theorem Byt.right {a b : List Int} (h : Byt (a ++ b)) : Byt b := fun x hx => h x (List.mem_append.2 (.inr hx))
theorem Byt.at {bs : List Int} (h : Byt bs) (i : Nat) : 0 ≤ bs[i]?.getD 0 ∧ bs[i]?.getD 0 ≤ 255 := by
  rcases Nat.lt_or_ge i bs.length with hi | hi
  · simp only [List.getElem?_eq_getElem hi, Option.getD_some]
    exact h _ (List.getElem_mem hi)
  · simp [List.getElem?_eq_none hi]
theorem Byt.drop {bs : List Int} (h : Byt bs) (n : Nat) : Byt (bs.drop n) := fun x hx => h x (List.mem_of_mem_drop hx)
theorem Byt.take {bs : List Int} (h : Byt bs) (n : Nat) : Byt (bs.take n) := fun x hx => h x (List.mem_of_mem_take hx)

end Go.Proofs.YtgbahfadjdincaaGreatDoor.Sha

namespace Go.Proofs.YtgbahfadjdincaaGreatDoor.Sha
open Go.RowKit
set_option linter.unusedVariables false

theorem hide {p : Prop} (h : p) : Hid p := h
theorem unhide {p : Prop} (h : Hid p) : p := h

theorem Tryz.infoByte : (Tryz.prog.info? 5).map (fun i => (i.zero, i.size, i.bytes)) = some (some (.int .u8 0), 1, 1) := by kernel_rfl

/-- The slice 'ao, n, c' holds the bytes bs. -/
structure Bs (w : World) (ao : Option Addr) (n c : Nat) (bs : List Int) : Prop where
  len : bs.length = n
  le : n ≤ c
  max : c ≤ 9223372036854775807
  nil : ao = none → c = 0
  byt : Byt bs
  at' : n = 0 ∨ ∃ b off, ao = some ⟨b, off, none⟩ ∧ ∀ i, i < n → w.cell? ⟨b, off + i, none⟩ = some (.int .u8 (bs.getD i 0))

theorem Bs.nought (w : World) : Bs w .none 0 0 [] := ⟨rfl, Nat.le_refl _, by omega, fun _ => rfl, Byt.nil, .inl rfl⟩

/-- It stays while only new memory is written. -/
theorem Bs.later {w w' : World} {ao : Option Addr} {n c : Nat} {bs : List Int} (h : Bs w ao n c bs) (hb : Below w.heap.size w w') : Bs w' ao n c bs := by
  refine ⟨h.len, h.le, h.max, h.nil, h.byt, ?_⟩
  rcases h.at' with h0 | ⟨b, off, e, hc⟩
  · exact .inl h0
  · exact .inr ⟨b, off, e, fun i hi => cell_later hb (hc i hi)⟩

/-- The bytes bs in a row of the call's own, from block B on. -/
structure Mine (B : Nat) (w : World) (ao : Option Addr) (n c : Nat) (bs : List Int) : Prop where
  len : bs.length = n
  own : w.ownsRow B 5 1 (.slice ao n c) n (bs.map (Value.int .u8))
  byt : Byt bs

theorem Mine.nought (B : Nat) (w : World) : Mine B w .none 0 0 [] := ⟨rfl, World.ownsRow_nil _ _ _ _, Byt.nil⟩

theorem Mine.bs {B : Nat} {w : World} {ao : Option Addr} {n c : Nat} {bs : List Int} (h : Mine B w ao n c bs) : Bs w ao n c bs := by
  have hl := h.len
  rcases h.own.2 with ⟨hv, h0⟩ | ⟨g, cap, cur, hv, hg, hh, hle, hmax, hsz, htake⟩
  · simp only [Value.slice.injEq] at hv
    obtain ⟨rfl, rfl, rfl⟩ := hv
    exact ⟨h.len, Nat.le_refl _, by omega, fun _ => rfl, h.byt, .inl rfl⟩
  · simp only [Value.slice.injEq] at hv
    obtain ⟨rfl, _, rfl⟩ := hv
    refine ⟨h.len, hle, by unfold maxLen at hmax; omega, (fun hq => by cases hq), h.byt, .inr ⟨g, 0, rfl, fun i hi => ?_⟩⟩
    have := h.own.cells (g := g) rfl i (.int .u8 (bs.getD i 0)) (by simp [List.getElem?_eq_getElem (show i < bs.length by omega)])
    rw [Addr.add_lit] at this
    exact this

theorem Mine.mono {B B' : Nat} {w : World} {ao : Option Addr} {n c : Nat} {bs : List Int} (h : Mine B w ao n c bs) (hB : B' ≤ B) : Mine B' w ao n c bs := by
  refine ⟨h.len, ⟨h.own.1, ?_⟩, h.byt⟩
  rcases h.own.2 with hv | ⟨g, cap, cur, hv, hg, r⟩
  · exact .inl hv
  · exact .inr ⟨g, cap, cur, hv, by omega, r⟩

theorem Mine.later {B : Nat} {w w' : World} {ao : Option Addr} {n c : Nat} {bs : List Int} (h : Mine B w ao n c bs) (hb : Below w.heap.size w w') : Mine B w' ao n c bs := by
  refine ⟨h.len, ⟨h.own.1, ?_⟩, h.byt⟩
  rcases h.own.2 with hv | ⟨g, cap, cur, hv, hg, hh, r⟩
  · exact .inl hv
  · exact .inr ⟨g, cap, cur, hv, hg, by rw [hb.block g (Array.getElem?_eq_some_iff.1 hh).1]; exact hh, r⟩

/-- The cells of a slice, as 'append' asks for them. -/
theorem Bs.news {w : World} {ad : Addr} {n c : Nat} {bs : List Int} (h : Bs w (some ad) n c bs) : ∀ j u, (bs.map (Value.int .u8))[j]? = some u → w.cell? (ad.add j) = some u := by
  intro j u hu
  have hj : j < bs.length := by
    have := (List.getElem?_eq_some_iff.1 hu).1
    simpa using this
  rcases h.at' with h0 | ⟨b, off, e, hc⟩
  · have := h.len; omega
  · obtain rfl := Option.some.inj e
    have := hc j (by have := h.len; omega)
    rw [Addr.add_lit, this]
    simp [List.getElem?_eq_getElem hj] at hu
    simp [hu, List.getElem?_eq_getElem hj]

/-- 'append(out, xs...)', out of the call's own. -/
theorem wpList_app {ops : Array Oper} {rest : List Oper} {o : Oper} {a : Act} {w : World} {Q : Exit → Act → World → Prop} (hgd : o.guard = none) (s x : Operand)
    (ho : o.op = .call { callee := .builtin .append, args := #[s, x], argTypes := #[32, 32] })
    (B : Nat) (ao : Option Addr) (n c : Nat) (bs : List Int) (hs : a.eval s = .slice ao n c) (hm : Mine B w ao n c bs)
    (ao' : Option Addr) (m c' : Nat) (cs : List Int) (hx : a.eval x = .slice ao' m c') (hb : Bs w ao' m c' cs) (hbound : n + m ≤ 140737488355328) (hB : B ≤ w.heap.size)
    (h : ∀ ao1 c1 w1, Mine B w1 ao1 (n + m) c1 (bs ++ cs) → Below B w w1 → wpList Tryz.prog ops Q rest (a.put o.dst (.slice ao1 (n + m) c1)) w1) :
    wpList Tryz.prog ops Q (o :: rest) a w := by
  obtain ⟨i0, hi, hz0, hz1, hz2⟩ := info_parts Tryz.infoByte
  have hlen := hm.len
  have hlen' := hb.len
  cases ao' with
  | none =>
    have hc' := hb.nil rfl
    have hm0 : m = 0 := by have := hb.le; omega
    subst hm0
    subst hc'
    have hcs : cs = [] := List.eq_nil_of_length_eq_zero hlen'
    subst hcs
    refine wpList_append_own_none hgd s x 32 ho B 5 i0 1 Tryz.underlying32 hi _ _ _ hs hm.own hx ?_
    exact h ao c w (by simpa using hm) (Below.refl _ _)
  | some ad =>
    refine wpList_append_own w hgd s x 32 ho B 5 i0 (.int .u8 0) 1 1 Tryz.underlying32 hi hz0 hz1 hz2 rfl (by decide) _ _ _ hs hm.own ad m c' (cs.map (Value.int .u8)) hx (by simp [hlen']) hb.news (ints_oneCell _ _) (by unfold maxLen; omega) (by omega) hB ?_
    intro v' w' hown hgrow _
    rw [← List.map_append] at hown
    have hbel : Below B w w' := (Below.refl B w).grown hgrow hB (fun k hk => (hm.own.lt k hk).1)
    have hex : ∃ ao1 c1, v' = .slice ao1 (n + m) c1 := by
      rcases hown.2 with ⟨hv, h0⟩ | ⟨g, cap, cur, hv, _⟩
      · exact ⟨.none, 0, by rw [hv, h0]⟩
      · exact ⟨_, _, hv⟩
    obtain ⟨ao1, c1, hv⟩ := hex
    subst hv
    exact h ao1 c1 w' ⟨by simp [hlen, hlen'], hown, hm.byt.app hb.byt⟩ hbel

/-- The address of 's[lo:..]'. -/
def cutAt (ao : Option Addr) (c lo : Nat) : Option Addr := if c = lo then ao else ao.map (·.add (lo * 1))

/-- A piece of a slice is a slice. -/
theorem Bs.cut {w : World} {ao : Option Addr} {n c : Nat} {bs : List Int} (h : Bs w ao n c bs) {lo hi : Nat} (h1 : lo ≤ hi) (h2 : hi ≤ n) : Bs w (cutAt ao c lo) (hi - lo) (c - lo) ((bs.drop lo).take (hi - lo)) := by
  have hl := h.len
  have hle := h.le
  refine ⟨by simp [hl]; omega, by omega, by have := h.max; omega, fun e => ?_, (h.byt.drop lo).take _, ?_⟩
  · have : ao = none := by
      unfold cutAt at e
      split at e
      · exact e
      · simpa using e
    have := h.nil this
    omega
  · by_cases hz : hi - lo = 0
    · exact .inl hz
    · right
      rcases h.at' with h0 | ⟨b, off, rfl, hc⟩
      · omega
      · refine ⟨b, off + lo, by unfold cutAt; rw [if_neg (by omega)]; simp [Addr.add_lit], fun i hi => ?_⟩
        have := hc (lo + i) (by omega)
        rw [Nat.add_assoc, this]
        simp [hi]

theorem Tryz.sizeByte (w : World) : (sizeOf (Tryz.prog.elem 32)).run Tryz.prog w = .ok 1 w := by kernel_rfl
theorem Tryz.elemBytes : Tryz.prog.underlying 32 = some (.slice (Tryz.prog.elem 32)) := by kernel_rfl

theorem run_cut_lh (ao : Option Addr) (n c lo hi : Nat) (h1 : lo ≤ hi) (h2 : hi ≤ c) (L H : Int) (hL : L = lo) (hH : H = hi) (w : World) :
    (Instr.slice 32 (.slice ao n c) (some (.int .i64 L)) (some (.int .i64 H)) none).run Tryz.prog w = .ok (.slice (cutAt ao c lo) (hi - lo) (c - lo)) w := by
  subst hL hH
  rw [run_slice_lh w 32 ao n c Tryz.elemBytes .i64 .i64 lo hi (by omega) (by omega) (by omega), Tryz.sizeByte]
  rfl
theorem run_cut_h (ao : Option Addr) (n c hi : Nat) (h2 : hi ≤ c) (H : Int) (hH : H = hi) (w : World) :
    (Instr.slice 32 (.slice ao n c) none (some (.int .i64 H)) none).run Tryz.prog w = .ok (.slice (cutAt ao c 0) (hi - 0) (c - 0)) w := by
  subst hH
  rw [run_slice_h w 32 ao n c Tryz.elemBytes .i64 hi (by omega) (by omega), Tryz.sizeByte]
  rfl
theorem run_cut_l (ao : Option Addr) (n c lo : Nat) (h1 : lo ≤ n) (L : Int) (hL : L = lo) (w : World) :
    (Instr.slice 32 (.slice ao n c) (some (.int .i64 L)) none none).run Tryz.prog w = .ok (.slice (cutAt ao c lo) (n - lo) (c - lo)) w := by
  subst hL
  rw [run_slice_l w 32 ao n c Tryz.elemBytes .i64 lo (by omega) (by omega), Tryz.sizeByte]
  rfl

/-- 's[lo:hi]' for the walk: a new value of which its bytes are known. -/
theorem Bs.cut_lh {w : World} {ao : Option Addr} {n c : Nat} {bs : List Int} (h : Bs w ao n c bs) {lo hi : Nat} (h1 : lo ≤ hi) (h2 : hi ≤ n) (L H : Int) (hL : L = lo) (hH : H = hi) :
    ∃ ao' c', (∀ wx, (Instr.slice 32 (.slice ao n c) (some (.int .i64 L)) (some (.int .i64 H)) none).run Tryz.prog wx = .ok (.slice ao' (hi - lo) c') wx) ∧ Bs w ao' (hi - lo) c' ((bs.drop lo).take (hi - lo)) :=
  ⟨_, _, run_cut_lh ao n c lo hi h1 (by have := h.le; omega) L H hL hH, h.cut h1 h2⟩
theorem Bs.cut_h {w : World} {ao : Option Addr} {n c : Nat} {bs : List Int} (h : Bs w ao n c bs) {hi : Nat} (h2 : hi ≤ n) (H : Int) (hH : H = hi) :
    ∃ ao' c', (∀ wx, (Instr.slice 32 (.slice ao n c) none (some (.int .i64 H)) none).run Tryz.prog wx = .ok (.slice ao' hi c') wx) ∧ Bs w ao' hi c' (bs.take hi) :=
  ⟨_, _, run_cut_h ao n c hi (by have := h.le; omega) H hH, by simpa using h.cut (Nat.zero_le hi) h2⟩
theorem Bs.cut_l {w : World} {ao : Option Addr} {n c : Nat} {bs : List Int} (h : Bs w ao n c bs) {lo : Nat} (h1 : lo ≤ n) (L : Int) (hL : L = lo) :
    ∃ ao' c', (∀ wx, (Instr.slice 32 (.slice ao n c) (some (.int .i64 L)) none none).run Tryz.prog wx = .ok (.slice ao' (n - lo) c') wx) ∧ Bs w ao' (n - lo) c' (bs.drop lo) :=
  ⟨_, _, run_cut_l ao n c lo h1 L hL, by have := h.cut h1 (Nat.le_refl n); rwa [List.take_of_length_le (by simp [h.len])] at this⟩

end Go.Proofs.YtgbahfadjdincaaGreatDoor.Sha

namespace Go.Proofs.YtgbahfadjdincaaGreatDoor.Sha
open Go.RowKit
set_option linter.unusedVariables false
set_option linter.unusedSimpArgs false

/-- 'make([]byte, 0, n)'. -/
theorem wpList_mk {ops : Array Oper} {rest : List Oper} {o : Oper} {a : Act} {w : World} {Q : Exit → Act → World → Prop} (hgd : o.guard = none) (l c : Operand)
    (ho : o.op = Op.makeSlice 32 l c) (kl kc : IntKind) (C : Int) (n : Nat) (hl : a.eval l = .int kl 0) (hc : a.eval c = .int kc C) (hC : C = (n : Int)) (hbound : n ≤ 140737488355328)
    (h : ∀ w1, Mine w.heap.size w1 (some ⟨w.heap.size, 0, none⟩) 0 n [] → Below w.heap.size w w1 → w.heap.size < w1.heap.size → wpList Tryz.prog ops Q rest (a.put o.dst (.slice (some ⟨w.heap.size, 0, none⟩) 0 n)) w1) :
    wpList Tryz.prog ops Q (o :: rest) a w := by
  obtain ⟨i0, hi, hz0, hz1, hz2⟩ := info_parts Tryz.infoByte
  refine wpList_make_own w hgd l c 32 ho w.heap.size 5 i0 (.int .u8 0) 1 Tryz.underlying32 hi hz0 hz1 kl kc C n hl hc hC (by rw [hz2]; omega) (by unfold maxLen; omega) (Nat.le_refl _) ?_
  intro w1 hown hgrow
  have hm : Mine w.heap.size w1 (some ⟨w.heap.size, 0, none⟩) 0 n [] := ⟨rfl, hown, Byt.nil⟩
  have hlt : w.heap.size < w1.heap.size := (hown.lt w.heap.size rfl).2
  exact h w1 hm ((Below.refl _ w).grown hgrow (Nat.le_refl _) (fun k hk => by cases hk)) hlt

/-- 'make([]byte, n)'. -/
theorem wpList_mkFull {ops : Array Oper} {rest : List Oper} {o : Oper} {a : Act} {w : World} {Q : Exit → Act → World → Prop} (hgd : o.guard = none) (l c : Operand)
    (ho : o.op = Op.makeSlice 32 l c) (kl kc : IntKind) (L C : Int) (n : Nat) (hl : a.eval l = .int kl L) (hc : a.eval c = .int kc C) (hL : L = (n : Int)) (hC : C = (n : Int)) (hbound : n ≤ 140737488355328)
    (h : ∀ w1, Mine w.heap.size w1 (some ⟨w.heap.size, 0, none⟩) n n (List.replicate n 0) → Below w.heap.size w w1 → w.heap.size < w1.heap.size → wpList Tryz.prog ops Q rest (a.put o.dst (.slice (some ⟨w.heap.size, 0, none⟩) n n)) w1) :
    wpList Tryz.prog ops Q (o :: rest) a w := by
  obtain ⟨i0, hi, hz0, hz1, hz2⟩ := info_parts Tryz.infoByte
  refine wpList_make_full w hgd l c 32 ho w.heap.size 5 i0 (.int .u8 0) 1 Tryz.underlying32 hi hz0 hz1 kl kc L C n hl hc hL hC (by rw [hz2]; omega) (by unfold maxLen; omega) (Nat.le_refl _) ?_
  intro w1 hown hgrow
  rw [show (Value.int IntKind.u8 0).cells = #[Value.int IntKind.u8 0] from rfl, toList_madeCells_one, Nat.mul_one, ← List.map_replicate] at hown
  have hm : Mine w.heap.size w1 (some ⟨w.heap.size, 0, none⟩) n n (List.replicate n 0) := ⟨by simp, hown, fun x hx => by have := List.eq_of_mem_replicate hx; omega⟩
  have hlt : w.heap.size < w1.heap.size := (hown.lt w.heap.size rfl).2
  exact h w1 hm ((Below.refl _ w).grown hgrow (Nat.le_refl _) (fun k hk => by cases hk)) hlt

/-- A new block is above all that was there. -/
theorem below_alloc (w : World) (o : Obj) : Below w.heap.size w (w.alloc o) := (Below.refl _ _).alloc (Nat.le_refl _) o

/-- The slice of one byte that 'append(out, b)' lays first. -/
theorem Bs.one (w : World) (v : Int) (h0 : 0 ≤ v) (h1 : v ≤ 255) : Bs (w.alloc (.cells #[.int .u8 v] 5)) (some ⟨w.heap.size, 0, none⟩) 1 1 [v] := by
  refine ⟨rfl, Nat.le_refl _, by omega, (fun e => by cases e), Byt.one h0 h1, .inr ⟨w.heap.size, 0, rfl, fun i hi => ?_⟩⟩
  have : i = 0 := by omega
  subst this
  simp

def nums (s : ByteArray) : List Int := s.data.toList.map fun b => (b.toNat : Int)

theorem nums_length (s : ByteArray) : (nums s).length = s.size := by simp [nums]
theorem nums_byt (s : ByteArray) : Byt (nums s) := by
  intro x hx
  obtain ⟨b, _, rfl⟩ := List.mem_map.1 hx
  have := b.toNat_lt
  omega

theorem below_bytesWorld (w : World) (e : TypeId) (s : ByteArray) : Below w.heap.size w (Lib.bytesWorld w e s) :=
  ⟨rfl, rfl, rfl, by rw [Lib.bytesWorld_size]; omega, fun k hk => Lib.bytesWorld_at_old w e s k hk⟩

theorem bs_bytesWorld (w : World) (s : ByteArray) (hs : s.size ≤ 140737488355328) : Bs (Lib.bytesWorld w 5 s) (some ⟨w.heap.size, 0, none⟩) s.size (grownCap w s.size 0 5) (nums s) := by
  have hm := grownCap_le_maxLen w s.size 0 5 (by unfold maxLen; omega)
  unfold maxLen at hm
  refine ⟨nums_length s, grownCap_ge _ _ _ _, hm, (fun e => by cases e), nums_byt s, .inr ⟨w.heap.size, 0, rfl, fun i hi => ?_⟩⟩
  rw [Nat.zero_add, Lib.bytesWorld_cell w 5 s i hi]
  congr 2
  simp [nums, hi]

/-- '[]byte(s)', for the walk. -/
theorem run_toBytes (s : ByteArray) (w : World) : (convert 9 32 (.string s)).run Tryz.prog w = .ok (.slice (some ⟨w.heap.size, 0, none⟩) s.size (grownCap w s.size 0 5)) (Lib.bytesWorld w 5 s) :=
  Lib.run_convert_string_bytes (P := Tryz.prog) w 9 32 5 s Tryz.underlying9 Tryz.underlying32 Tryz.underlying5

/-- 'append' where there is room: the value is known. -/
theorem wpList_appFits {ops : Array Oper} {rest : List Oper} {o : Oper} {a : Act} {w : World} {Q : Exit → Act → World → Prop} (hgd : o.guard = none) (s x : Operand)
    (ho : o.op = .call { callee := .builtin .append, args := #[s, x], argTypes := #[32, 32] })
    (B g n c : Nat) (bs : List Int) (hs : a.eval s = .slice (some ⟨g, 0, none⟩) n c) (hm : Mine B w (some ⟨g, 0, none⟩) n c bs)
    (ao' : Option Addr) (m c' : Nat) (cs : List Int) (hx : a.eval x = .slice ao' m c') (hb : Bs w ao' m c' cs) (hroom : n + m ≤ c) (hB : B ≤ w.heap.size)
    (h : ∀ w1, Mine B w1 (some ⟨g, 0, none⟩) (n + m) c (bs ++ cs) → Below B w w1 → wpList Tryz.prog ops Q rest (a.put o.dst (.slice (some ⟨g, 0, none⟩) (n + m) c)) w1) :
    wpList Tryz.prog ops Q (o :: rest) a w := by
  obtain ⟨i0, hi, hz0, hz1, hz2⟩ := info_parts Tryz.infoByte
  have hlen := hm.len
  have hlen' := hb.len
  refine wpList_append_fits_any w hgd s x 32 ho B 5 i0 1 Tryz.underlying32 hi hz1 g n c _ hs hm.own ao' m c' (cs.map (Value.int .u8)) hx (by simp [hlen'])
    (fun e => by have := hb.nil e; have := hb.le; omega) (fun ad e => by subst e; exact hb.news) (ints_oneCell _ _) hroom ?_
  intro w1 hown hgrow
  rw [← List.map_append] at hown
  exact h w1 ⟨by simp [hlen, hlen'], hown, hm.byt.app hb.byt⟩ ((Below.refl B w).grown hgrow hB (fun k hk => (hm.own.lt k hk).1))

/-- A first part of a slice, its room kept. -/
theorem Bs.pre {w : World} {ao : Option Addr} {n m c : Nat} {bs cs : List Int} (h : Bs w ao (n + m) c (bs ++ cs)) (hn : bs.length = n) : Bs w ao n c bs := by
  refine ⟨hn, by have := h.le; omega, h.max, h.nil, h.byt.left, ?_⟩
  by_cases h0 : n = 0
  · exact .inl h0
  · rcases h.at' with hz | ⟨b, off, e, hc⟩
    · omega
    · refine .inr ⟨b, off, e, fun i hi => ?_⟩
      rw [hc i (by omega)]
      simp [List.getElem?_append_left (show i < bs.length by omega)]

/-- A slice that is written out in the program's text. -/
theorem Bs.lit (w : World) (l : List Int) (h : Byt l) (hl : l.length ≤ 1000) : Bs (w.alloc (.cells (l.map (Value.int .u8)).toArray 5)) (some ⟨w.heap.size, 0, none⟩) l.length l.length l := by
  refine ⟨rfl, Nat.le_refl _, by omega, (fun e => by cases e), h, .inr ⟨w.heap.size, 0, rfl, fun i hi => ?_⟩⟩
  rw [Nat.zero_add]
  simp [hi]

/-- A slice of bytes that came in. -/
theorem bs_of_row {w : World} {a : Option Addr} {len cap : Nat} {zs : List Int} (h : (a = none ∧ len = 0 ∧ cap = 0 ∧ zs = []) ∨
  ∃ x, a = some x ∧ len ≤ cap ∧ cap ≤ maxLen ∧ zs.length = cap ∧ (∀ i, i < zs.length → w.cell? (x.add i) = some (.int .u8 (zs.getD i 0))) ∧ ∀ n ∈ zs, (Lit.int .u8 n).wf = true) : Bs w a len cap (zs.take len) := by
  rcases h with ⟨rfl, rfl, rfl, rfl⟩ | ⟨x, rfl, hl, hm, hz, hc, hw⟩
  · exact Bs.nought w
  · unfold maxLen at hm
    refine ⟨by simp; omega, hl, by omega, (fun e => by cases e), fun y hy => ?_, ?_⟩
    · have := bounds_u8 (hw y (List.mem_of_mem_take hy))
      omega
    · by_cases h0 : len = 0
      · exact .inl h0
      · right
        obtain ⟨b, off, spot⟩ := x
        have h1 := hc 0 (by omega)
        have hspot : spot = none := by simpa [Addr.add] using World.cell?_spot h1
        subst hspot
        refine ⟨b, off, rfl, fun i hi => ?_⟩
        have := hc i (by omega)
        rw [Addr.add_lit] at this
        rw [this]
        simp [hi]

/-- A call that leaves the world as it was. -/
theorem same_world {P : Program} {f : Nat} {args : Array Value} {w : World} {e0 : Ending} {Q : Ending → World → Prop} (h : Calls P f args w fun e w' => e = e0 ∧ w' = w) (hq : Q e0 w) : Calls P f args w Q := by
  refine h.mono ?_
  rintro e w' ⟨rfl, rfl⟩
  exact hq

theorem cell_top (w : World) (C : Array Value) (t : TypeId) (j b : Nat) (hb : b = w.heap.size) : (w.alloc (.cells C t)).cell? ⟨b, j, none⟩ = C[j]? := by
  subst hb
  exact World.cell?_alloc_mark w C t (0, 0) j
theorem cell_under (w : World) (o : Obj) (b j : Nat) (h : b < w.heap.size) : (w.alloc o).cell? ⟨b, j, none⟩ = w.cell? ⟨b, j, none⟩ := (below_alloc w o).cell (p := ⟨b, j, none⟩) h

theorem tup2 {k l : IntKind} {a b a' b' : Int} (h : a = a') (h2 : b = b') : Ending.returned (.tuple #[.int k a, .int l b]) = .returned (.tuple #[.int k a', .int l b']) := by rw [h, h2]

/-- '[]byte{}'. -/
theorem Mine.empty (w : World) : Mine w.heap.size (w.alloc (.cells #[] 5)) (some ⟨w.heap.size, 0, none⟩) 0 0 [] :=
  ⟨rfl, World.ownsRow_made w #[] 0 (Nat.le_refl _) (by unfold maxLen; omega) rfl, Byt.nil⟩

/-- 'out[i] = v', out of the call's own. -/
theorem Mine.stored {B : Nat} {w : World} {g n c : Nat} {bs : List Int} (h : Mine B w (some ⟨g, 0, none⟩) n c bs) (i : Nat) (v : Int) (h0 : 0 ≤ v) (h1 : v ≤ 255) : Mine B (w.setCell ⟨g, i, none⟩ (.int .u8 v)) (some ⟨g, 0, none⟩) n c (bs.set i v) := by
  refine ⟨by simp [h.len], ?_, fun x hx => ?_⟩
  · rw [List.map_set]
    exact (h.own.stored i _).1
  · rcases List.mem_or_eq_of_mem_set hx with hh | hh
    · exact h.byt x hh
    · omega

theorem Mine.free {B : Nat} {w : World} {g n c : Nat} {bs : List Int} (h : Mine B w (some ⟨g, 0, none⟩) n c bs) (i : Nat) : w.frozen? ⟨g, i, none⟩ = false := h.own.frozenAt i
theorem Mine.block {B : Nat} {w : World} {g n c : Nat} {bs : List Int} (h : Mine B w (some ⟨g, 0, none⟩) n c bs) : B ≤ g ∧ g < w.heap.size := h.own.lt g rfl
/-- A row of the call's own with something in it is a block. -/
theorem Mine.some {B : Nat} {w : World} {ao : Option Addr} {n c : Nat} {bs : List Int} (h : Mine B w ao n c bs) (h0 : 0 < n) : ∃ g, ao = .some ⟨g, 0, none⟩ := by
  rcases h.own.2 with ⟨hv, hz⟩ | ⟨g, cap, cur, hv, _⟩
  · omega
  · simp only [Value.slice.injEq] at hv
    exact ⟨g, hv.1⟩

/-- '[]byte("text")' of a constant: the literal's row gets a mark behind its last cell. -/
theorem run_const (w : World) (C : Array Value) (n c : Nat) : (convert 32 32 (.slice (some ⟨w.heap.size, 0, none⟩) n c)).run Tryz.prog (w.alloc (.cells C 5)) = .ok (.slice (some ⟨w.heap.size, 0, none⟩) n c) (w.alloc (.cells C 5 (C.size, C.size + 1))) :=
  Lib.run_convert_bytes_const (P := Tryz.prog) w 32 5 C n c Tryz.underlying32 Tryz.underlying5

theorem Bs.const (w : World) (m : Nat × Nat) (l : List Int) (h : Byt l) (hl : l.length ≤ 1000) : Bs (w.alloc (.cells (l.map (Value.int .u8)).toArray 5 m)) (some ⟨w.heap.size, 0, none⟩) l.length l.length l := by
  refine ⟨rfl, Nat.le_refl _, by omega, (fun e => by cases e), h, .inr ⟨w.heap.size, 0, rfl, fun i hi => ?_⟩⟩
  rw [Nat.zero_add, World.cell?_alloc_mark]
  simp [hi]

end Go.Proofs.YtgbahfadjdincaaGreatDoor.Sha

namespace Go.Proofs.YtgbahfadjdincaaGreatDoor.Sha
open Go.RowKit
set_option linter.unusedVariables false
set_option linter.unusedSimpArgs false

theorem Tryz.infoU32 : (Tryz.prog.info? 66).map (fun i => (i.zero, i.size, i.bytes)) = some (some (.int .u32 0), 1, 4) := by kernel_rfl

/-- Every number of the list is an int's. -/
def U32 (xs : List Int) : Prop := ∀ x ∈ xs, 0 ≤ x ∧ x ≤ 4294967295

theorem U32.nil : U32 [] := by intro x hx; cases hx
theorem U32.app {a b : List Int} (h : U32 a) (k : U32 b) : U32 (a ++ b) := by
  intro x hx
  rcases List.mem_append.1 hx with h1 | h1
  · exact h x h1
  · exact k x h1
theorem U32.one {x : Int} (h0 : 0 ≤ x) (h1 : x ≤ 4294967295) : U32 [x] := by
  intro y hy
  simp at hy
  omega
theorem U32.at {xs : List Int} (h : U32 xs) (i : Nat) : 0 ≤ xs[i]?.getD 0 ∧ xs[i]?.getD 0 ≤ 4294967295 := by
  rcases Nat.lt_or_ge i xs.length with hi | hi
  · simp only [List.getElem?_eq_getElem hi, Option.getD_some]
    exact h _ (List.getElem_mem hi)
  · simp [List.getElem?_eq_none hi]

/-- The slice 'ao, n, c' holds the ints xs. -/
structure Us (w : World) (ao : Option Addr) (n c : Nat) (xs : List Int) : Prop where
  len : xs.length = n
  le : n ≤ c
  max : c ≤ 9223372036854775807
  nil : ao = none → c = 0
  fit : U32 xs
  at' : n = 0 ∨ ∃ b off, ao = some ⟨b, off, none⟩ ∧ ∀ i, i < n → w.cell? ⟨b, off + i, none⟩ = some (.int .u32 (xs[i]?.getD 0))

theorem Us.nought (w : World) : Us w .none 0 0 [] := ⟨rfl, Nat.le_refl _, by omega, fun _ => rfl, U32.nil, .inl rfl⟩

theorem Us.later {w w' : World} {ao : Option Addr} {n c : Nat} {xs : List Int} (h : Us w ao n c xs) (hb : Below w.heap.size w w') : Us w' ao n c xs := by
  refine ⟨h.len, h.le, h.max, h.nil, h.fit, ?_⟩
  rcases h.at' with h0 | ⟨b, off, e, hc⟩
  · exact .inl h0
  · exact .inr ⟨b, off, e, fun i hi => cell_later hb (hc i hi)⟩

theorem Tryz.elemU32 : Tryz.prog.underlying 67 = some (.slice (Tryz.prog.elem 67)) := by kernel_rfl

/-- 'xs[i]' for the walk: its address, and what lies there. -/
theorem Us.idx {w : World} {ao : Option Addr} {n c : Nat} {xs : List Int} (h : Us w ao n c xs) {i : Nat} (hi : i < n) (I : Int) (hI : I = i) :
    ∃ b o, (∀ wx, (Instr.indexAt 67 (.slice ao n c) (.int .i64 I)).run Tryz.prog wx = .ok (.pointer (some ⟨b, o, none⟩)) wx) ∧ w.cell? ⟨b, o, none⟩ = some (.int .u32 (xs[i]?.getD 0)) := by
  subst hI
  rcases h.at' with h0 | ⟨b, off, rfl, hc⟩
  · omega
  · refine ⟨b, off + i, fun wx => ?_, hc i hi⟩
    have hs : ∀ w : World, (sizeOf (Tryz.prog.elem 67)).run Tryz.prog w = .ok 1 w := by intro w; kernel_rfl
    rw [run_indexAt_slice wx 67 _ n c .i64 (i : Int) Tryz.elemU32]
    simp [hs, hi, Addr.add_lit, Result.andThen]

/-- 'b[i]' of bytes for the walk. -/
theorem Bs.idx {w : World} {ao : Option Addr} {n c : Nat} {bs : List Int} (h : Bs w ao n c bs) {i : Nat} (hi : i < n) (I : Int) (hI : I = i) :
    ∃ b o, (∀ wx, (Instr.indexAt 32 (.slice ao n c) (.int .i64 I)).run Tryz.prog wx = .ok (.pointer (some ⟨b, o, none⟩)) wx) ∧ w.cell? ⟨b, o, none⟩ = some (.int .u8 (bs[i]?.getD 0)) := by
  subst hI
  rcases h.at' with h0 | ⟨b, off, rfl, hc⟩
  · omega
  · refine ⟨b, off + i, fun wx => ?_, by rw [hc i hi]; simp⟩
    rw [run_indexAt_slice wx 32 _ n c .i64 (i : Int) Tryz.elemBytes]
    simp [Tryz.sizeByte, hi, Addr.add_lit, Result.andThen]

/-- The ints xs in a row of the call's own, from block B on. -/
structure UMine (B : Nat) (w : World) (ao : Option Addr) (n c : Nat) (xs : List Int) : Prop where
  len : xs.length = n
  own : w.ownsRow B 66 1 (.slice ao n c) n (xs.map (Value.int .u32))
  fit : U32 xs

theorem UMine.nought (B : Nat) (w : World) : UMine B w .none 0 0 [] := ⟨rfl, World.ownsRow_nil _ _ _ _, U32.nil⟩

theorem UMine.is {B : Nat} {w : World} {ao : Option Addr} {n c : Nat} {xs : List Int} (h : UMine B w ao n c xs) : Us w ao n c xs := by
  have hl := h.len
  rcases h.own.2 with ⟨hv, h0⟩ | ⟨g, cap, cur, hv, hg, hh, hle, hmax, hsz, htake⟩
  · simp only [Value.slice.injEq] at hv
    obtain ⟨rfl, rfl, rfl⟩ := hv
    exact ⟨h.len, Nat.le_refl _, by omega, fun _ => rfl, h.fit, .inl rfl⟩
  · simp only [Value.slice.injEq] at hv
    obtain ⟨rfl, _, rfl⟩ := hv
    refine ⟨h.len, hle, by unfold maxLen at hmax; omega, (fun hq => by cases hq), h.fit, .inr ⟨g, 0, rfl, fun i hi => ?_⟩⟩
    have := h.own.cells (g := g) rfl i (.int .u32 (xs[i]?.getD 0)) (by simp [List.getElem?_eq_getElem (show i < xs.length by omega)])
    rw [Addr.add_lit] at this
    exact this

theorem UMine.mono {B B' : Nat} {w : World} {ao : Option Addr} {n c : Nat} {xs : List Int} (h : UMine B w ao n c xs) (hB : B' ≤ B) : UMine B' w ao n c xs := by
  refine ⟨h.len, ⟨h.own.1, ?_⟩, h.fit⟩
  rcases h.own.2 with hv | ⟨g, cap, cur, hv, hg, r⟩
  · exact .inl hv
  · exact .inr ⟨g, cap, cur, hv, by omega, r⟩

theorem UMine.later {B : Nat} {w w' : World} {ao : Option Addr} {n c : Nat} {xs : List Int} (h : UMine B w ao n c xs) (hb : Below w.heap.size w w') : UMine B w' ao n c xs := by
  refine ⟨h.len, ⟨h.own.1, ?_⟩, h.fit⟩
  rcases h.own.2 with hv | ⟨g, cap, cur, hv, hg, hh, r⟩
  · exact .inl hv
  · exact .inr ⟨g, cap, cur, hv, hg, by rw [hb.block g (Array.getElem?_eq_some_iff.1 hh).1]; exact hh, r⟩

theorem Us.news {w : World} {ad : Addr} {n c : Nat} {xs : List Int} (h : Us w (some ad) n c xs) : ∀ j u, (xs.map (Value.int .u32))[j]? = some u → w.cell? (ad.add j) = some u := by
  intro j u hu
  have hj : j < xs.length := by
    have := (List.getElem?_eq_some_iff.1 hu).1
    simpa using this
  rcases h.at' with h0 | ⟨b, off, e, hc⟩
  · have := h.len; omega
  · obtain rfl := Option.some.inj e
    have := hc j (by have := h.len; omega)
    rw [Addr.add_lit, this]
    simp [List.getElem?_eq_getElem hj] at hu
    simp [hu, List.getElem?_eq_getElem hj]

/-- 'append(out, xs...)', out of the call's own. -/
theorem wpList_uapp {ops : Array Oper} {rest : List Oper} {o : Oper} {a : Act} {w : World} {Q : Exit → Act → World → Prop} (hgd : o.guard = none) (s x : Operand)
    (ho : o.op = .call { callee := .builtin .append, args := #[s, x], argTypes := #[67, 67] })
    (B : Nat) (ao : Option Addr) (n c : Nat) (bs : List Int) (hs : a.eval s = .slice ao n c) (hm : UMine B w ao n c bs)
    (ao' : Option Addr) (m c' : Nat) (cs : List Int) (hx : a.eval x = .slice ao' m c') (hb : Us w ao' m c' cs) (hbound : n + m ≤ 1000000000000) (hB : B ≤ w.heap.size)
    (h : ∀ ao1 c1 w1, UMine B w1 ao1 (n + m) c1 (bs ++ cs) → Below B w w1 → wpList Tryz.prog ops Q rest (a.put o.dst (.slice ao1 (n + m) c1)) w1) :
    wpList Tryz.prog ops Q (o :: rest) a w := by
  obtain ⟨i0, hi, hz0, hz1, hz2⟩ := info_parts Tryz.infoU32
  have hlen := hm.len
  have hlen' := hb.len
  cases ao' with
  | none =>
    have hc' := hb.nil rfl
    have hm0 : m = 0 := by have := hb.le; omega
    subst hm0
    subst hc'
    have hcs : cs = [] := List.eq_nil_of_length_eq_zero hlen'
    subst hcs
    refine wpList_append_own_none hgd s x 67 ho B 66 i0 1 Tryz.underlying67 hi _ _ _ hs hm.own hx ?_
    exact h ao c w (by simpa using hm) (Below.refl _ _)
  | some ad =>
    refine wpList_append_own w hgd s x 67 ho B 66 i0 (.int .u32 0) 1 4 Tryz.underlying67 hi hz0 hz1 hz2 rfl (by decide) _ _ _ hs hm.own ad m c' (cs.map (Value.int .u32)) hx (by simp [hlen']) hb.news (ints_oneCell _ _) (by unfold maxLen; omega) (by omega) hB ?_
    intro v' w' hown hgrow _
    rw [← List.map_append] at hown
    have hbel : Below B w w' := (Below.refl B w).grown hgrow hB (fun k hk => (hm.own.lt k hk).1)
    have hex : ∃ ao1 c1, v' = .slice ao1 (n + m) c1 := by
      rcases hown.2 with ⟨hv, h0⟩ | ⟨g, cap, cur, hv, _⟩
      · exact ⟨.none, 0, by rw [hv, h0]⟩
      · exact ⟨_, _, hv⟩
    obtain ⟨ao1, c1, hv⟩ := hex
    subst hv
    exact h ao1 c1 w' ⟨by simp [hlen, hlen'], hown, hm.fit.app hb.fit⟩ hbel

/-- 'make([]int, n)'. -/
theorem wpList_umkFull {ops : Array Oper} {rest : List Oper} {o : Oper} {a : Act} {w : World} {Q : Exit → Act → World → Prop} (hgd : o.guard = none) (l c : Operand)
    (ho : o.op = Op.makeSlice 67 l c) (kl kc : IntKind) (L C : Int) (n : Nat) (hl : a.eval l = .int kl L) (hc : a.eval c = .int kc C) (hL : L = (n : Int)) (hC : C = (n : Int)) (hbound : n ≤ 1000000000000)
    (h : ∀ w1, UMine w.heap.size w1 (some ⟨w.heap.size, 0, none⟩) n n (List.replicate n 0) → Below w.heap.size w w1 → w.heap.size < w1.heap.size → wpList Tryz.prog ops Q rest (a.put o.dst (.slice (some ⟨w.heap.size, 0, none⟩) n n)) w1) :
    wpList Tryz.prog ops Q (o :: rest) a w := by
  obtain ⟨i0, hi, hz0, hz1, hz2⟩ := info_parts Tryz.infoU32
  refine wpList_make_full w hgd l c 67 ho w.heap.size 66 i0 (.int .u32 0) 1 Tryz.underlying67 hi hz0 hz1 kl kc L C n hl hc hL hC (by rw [hz2]; omega) (by unfold maxLen; omega) (Nat.le_refl _) ?_
  intro w1 hown hgrow
  rw [show (Value.int IntKind.u32 0).cells = #[Value.int IntKind.u32 0] from rfl, toList_madeCells_one, Nat.mul_one, ← List.map_replicate] at hown
  have hm : UMine w.heap.size w1 (some ⟨w.heap.size, 0, none⟩) n n (List.replicate n 0) := ⟨by simp, hown, fun x hx => by have := List.eq_of_mem_replicate hx; omega⟩
  have hlt : w.heap.size < w1.heap.size := (hown.lt w.heap.size rfl).2
  exact h w1 hm ((Below.refl _ w).grown hgrow (Nat.le_refl _) (fun k hk => by cases hk)) hlt

/-- 'out[i] = v', out of the call's own. -/
theorem UMine.stored {B : Nat} {w : World} {g n c : Nat} {xs : List Int} (h : UMine B w (some ⟨g, 0, none⟩) n c xs) (i : Nat) (v : Int) (h0 : 0 ≤ v) (h1 : v ≤ 4294967295) : UMine B (w.setCell ⟨g, i, none⟩ (.int .u32 v)) (some ⟨g, 0, none⟩) n c (xs.set i v) := by
  refine ⟨by simp [h.len], ?_, fun x hx => ?_⟩
  · rw [List.map_set]
    exact (h.own.stored i _).1
  · rcases List.mem_or_eq_of_mem_set hx with hh | hh
    · exact h.fit x hh
    · omega

theorem UMine.free {B : Nat} {w : World} {g n c : Nat} {xs : List Int} (h : UMine B w (some ⟨g, 0, none⟩) n c xs) (i : Nat) : w.frozen? ⟨g, i, none⟩ = false := h.own.frozenAt i
theorem UMine.block {B : Nat} {w : World} {g n c : Nat} {xs : List Int} (h : UMine B w (some ⟨g, 0, none⟩) n c xs) : B ≤ g ∧ g < w.heap.size := h.own.lt g rfl

theorem UMine.keep {B : Nat} {w w' : World} {ao : Option Addr} {n c : Nat} {xs : List Int} (h : UMine B w ao n c xs) (hk : ∀ k, B ≤ k → w'.heap[k]? = w.heap[k]?) : UMine B w' ao n c xs := by
  refine ⟨h.len, ⟨h.own.1, ?_⟩, h.fit⟩
  rcases h.own.2 with hv | ⟨g, cap, cur, hv, hg, hh, r⟩
  · exact .inl hv
  · exact .inr ⟨g, cap, cur, hv, hg, by rw [hk g hg]; exact hh, r⟩
theorem UMine.below {B : Nat} {w : World} {ao : Option Addr} {n c : Nat} {xs : List Int} (h : UMine B w ao n c xs) {a : Addr} (ha : a.block < B) (u : Value) : UMine B (w.setCell a u) ao n c xs :=
  ⟨h.len, ownsRow_setCell_below h.own ha u, h.fit⟩

/-- A slice of uint32 that is written out in the program's text. -/
theorem Us.lit (w : World) (l : List Int) (h : U32 l) (hl : l.length ≤ 1000) : Us (w.alloc (.cells (l.map (Value.int .u32)).toArray 66)) (some ⟨w.heap.size, 0, none⟩) l.length l.length l := by
  refine ⟨rfl, Nat.le_refl _, by omega, (fun e => by cases e), h, .inr ⟨w.heap.size, 0, rfl, fun i hi => ?_⟩⟩
  rw [Nat.zero_add]
  simp [hi]

/-- '[]int{}'. -/
theorem UMine.empty (w : World) : UMine w.heap.size (w.alloc (.cells #[] 66)) (some ⟨w.heap.size, 0, none⟩) 0 0 [] :=
  ⟨rfl, World.ownsRow_made w #[] 0 (Nat.le_refl _) (by unfold maxLen; omega) rfl, U32.nil⟩

/-- The slice of one int that 'append(out, x)' lays first. -/
theorem Us.one (w : World) (v : Int) (h0 : 0 ≤ v) (h1 : v ≤ 4294967295) : Us (w.alloc (.cells #[.int .u32 v] 66)) (some ⟨w.heap.size, 0, none⟩) 1 1 [v] :=
  Us.lit w [v] (U32.one h0 h1) (by simp)

end Go.Proofs.YtgbahfadjdincaaGreatDoor.Sha

namespace Go.Proofs.YtgbahfadjdincaaGreatDoor.Sha
open Go
set_option linter.unusedVariables false

theorem and1_u8 (y : Int) (h0 : 0 ≤ y) (h1 : y ≤ 255) : bits .and .u8 y 1 = y % 2 := by
  rw [u8_and y 1 h0 (by omega) (by omega) (by omega), show (1 : Int).toNat = 1 from rfl, nat_mask1]
  omega
theorem and1_i64 (n : Int) : bits .and .i64 n 1 = n % 2 := by
  have h1 : (BitVec.ofInt 64 1).toNat = 2 ^ 1 - 1 := by decide
  have key : (BitVec.ofInt 64 n &&& BitVec.ofInt 64 1).toNat = (n % ((2 ^ 64 : Nat) : Int)).toNat % 2 ^ 1 := by
    rw [BitVec.toNat_and, BitVec.toNat_ofInt, h1, Nat.and_two_pow_sub_one_eq_mod]
  show IntKind.i64.wrap ((BitVec.ofInt 64 n &&& BitVec.ofInt 64 1).toNat : Nat) = n % 2
  rw [key, IntKind.wrap_i64]
  omega
theorem or1_i64 (x b : Int) (h0 : 0 ≤ x) (h1 : x ≤ 1000000000) (b0 : 0 ≤ b) (b1 : b ≤ 1) : bits .or .i64 (x * 2) b = x * 2 + b := by
  obtain ⟨X, rfl⟩ := Int.eq_ofNat_of_zero_le h0
  obtain ⟨B, rfl⟩ := Int.eq_ofNat_of_zero_le b0
  have hX : X ≤ 1000000000 := by omega
  have e1 : BitVec.ofInt 64 ((X : Int) * 2) = BitVec.ofNat 64 (X * 2) := by rw [show (X : Int) * 2 = ((X * 2 : Nat) : Int) by omega, BitVec.ofInt_natCast]
  show IntKind.i64.wrap ((BitVec.ofInt 64 ((X : Int) * 2) ||| BitVec.ofInt 64 (B : Int)).toNat : Int) = _
  rw [e1, BitVec.ofInt_natCast, BitVec.toNat_or, BitVec.toNat_ofNat, BitVec.toNat_ofNat, Nat.mod_eq_of_lt (show X * 2 < 2 ^ 64 by omega), Nat.mod_eq_of_lt (show B < 2 ^ 64 by omega), nat_join 1 (X * 2) B (by omega) (by omega), IntKind.wrap_i64]
  omega
theorem or_u8 (a b : Int) (k : Nat) (hk : k < 8) (a0 : 0 ≤ a) (a1 : a < 2 ^ k) (b0 : 0 ≤ b) (b1 : b ≤ 1) : bits .or .u8 a (b * 2 ^ k) = a + b * 2 ^ k := by
  have hp : (2 : Int) ^ k ≤ 128 := by
    have := Nat.pow_le_pow_right (show 0 < 2 by omega) (show k ≤ 7 by omega)
    have h2 : (2 : Int) ^ k ≤ 2 ^ 7 := by exact_mod_cast this
    omega
  have hb : b = 0 ∨ b = 1 := by omega
  have hm : 0 ≤ b * 2 ^ k ∧ b * 2 ^ k ≤ 128 := by rcases hb with h | h <;> subst h <;> omega
  obtain ⟨A, rfl⟩ := Int.eq_ofNat_of_zero_le a0
  obtain ⟨B, rfl⟩ := Int.eq_ofNat_of_zero_le b0
  have e : (B : Int) * 2 ^ k = ((B * 2 ^ k : Nat) : Int) := by rw [Int.natCast_mul, Int.natCast_pow]; rfl
  have hA : A < 2 ^ k := by exact_mod_cast a1
  rw [e] at hm ⊢
  rw [u8_or_nat A (B * 2 ^ k) (by omega) (by omega), Nat.or_comm, nat_join k (B * 2 ^ k) A (by simp) hA]
  omega

end Go.Proofs.YtgbahfadjdincaaGreatDoor.Sha
