/-
  What a slice of bytes is in memory, for the walks: where its bytes lie, that it stays there while new memory is made, and what 'append' to a slice of the call's own leaves. Conditions: lengths below a bound that is far above every length the statements allow.
-/
import Derived.Test.YtddfbaaghjcbnaaGreatDoorRows
import Derived.Test.YtddfbaaghjcbnaaGreatDoorByt
import Derived.WalkKit
import Derived.WalkSpells
import Derived.WalkLawsBesides
import Derived.Laws.AppendOwnNone
namespace Go.Proofs.YtddfbaaghjcbnaaGreatDoor
open Go.RowKit
set_option linter.unusedVariables false

theorem hide {p : Prop} (h : p) : Hid p := h
theorem unhide {p : Prop} (h : Hid p) : p := h

theorem Tryz.infoByte : (Tryz.prog.info? 5).map (fun i => (i.zero, i.size, i.bytes)) = some (some (.int .u8 0), 1, 1) := by kernel_rfl

/-- The slice 'ao, n, c' holds the bytes bs. -/
structure Bs (w : World) (ao : Option Addr) (n c : Nat) (bs : List Int) : Prop where
  len : bs.length = n
  le : n ≤ c
  max : c ≤ 9223372036854775807
  nil : ao = none → c = 0
  byt : Byt bs
  at' : n = 0 ∨ ∃ b off, ao = some ⟨b, off, none⟩ ∧ ∀ i, i < n → w.cell? ⟨b, off + i, none⟩ = some (.int .u8 (bs.getD i 0))

theorem Bs.nought (w : World) : Bs w .none 0 0 [] := ⟨rfl, Nat.le_refl _, by omega, fun _ => rfl, Byt.nil, .inl rfl⟩

/-- It stays while only new memory is written. -/
theorem Bs.later {w w' : World} {ao : Option Addr} {n c : Nat} {bs : List Int} (h : Bs w ao n c bs) (hb : Below w.heap.size w w') : Bs w' ao n c bs := by
  refine ⟨h.len, h.le, h.max, h.nil, h.byt, ?_⟩
  rcases h.at' with h0 | ⟨b, off, e, hc⟩
  · exact .inl h0
  · exact .inr ⟨b, off, e, fun i hi => cell_later hb (hc i hi)⟩

/-- The bytes bs in a row of the call's own, from block B on. -/
structure Mine (B : Nat) (w : World) (ao : Option Addr) (n c : Nat) (bs : List Int) : Prop where
  len : bs.length = n
  own : w.ownsRow B 5 1 (.slice ao n c) n (bs.map (Value.int .u8))
  byt : Byt bs

theorem Mine.nought (B : Nat) (w : World) : Mine B w .none 0 0 [] := ⟨rfl, World.ownsRow_nil _ _ _ _, Byt.nil⟩

theorem Mine.bs {B : Nat} {w : World} {ao : Option Addr} {n c : Nat} {bs : List Int} (h : Mine B w ao n c bs) : Bs w ao n c bs := by
  have hl := h.len
  rcases h.own.2 with ⟨hv, h0⟩ | ⟨g, cap, cur, hv, hg, hh, hle, hmax, hsz, htake⟩
  · simp only [Value.slice.injEq] at hv
    obtain ⟨rfl, rfl, rfl⟩ := hv
    exact ⟨h.len, Nat.le_refl _, by omega, fun _ => rfl, h.byt, .inl rfl⟩
  · simp only [Value.slice.injEq] at hv
    obtain ⟨rfl, _, rfl⟩ := hv
    refine ⟨h.len, hle, by unfold maxLen at hmax; omega, (fun hq => by cases hq), h.byt, .inr ⟨g, 0, rfl, fun i hi => ?_⟩⟩
    have := h.own.cells (g := g) rfl i (.int .u8 (bs.getD i 0)) (by simp [List.getElem?_eq_getElem (show i < bs.length by omega)])
    rw [Addr.add_lit] at this
    exact this

theorem Mine.mono {B B' : Nat} {w : World} {ao : Option Addr} {n c : Nat} {bs : List Int} (h : Mine B w ao n c bs) (hB : B' ≤ B) : Mine B' w ao n c bs := by
  refine ⟨h.len, ⟨h.own.1, ?_⟩, h.byt⟩
  rcases h.own.2 with hv | ⟨g, cap, cur, hv, hg, r⟩
  · exact .inl hv
  · exact .inr ⟨g, cap, cur, hv, by omega, r⟩

theorem Mine.later {B : Nat} {w w' : World} {ao : Option Addr} {n c : Nat} {bs : List Int} (h : Mine B w ao n c bs) (hb : Below w.heap.size w w') : Mine B w' ao n c bs := by
  refine ⟨h.len, ⟨h.own.1, ?_⟩, h.byt⟩
  rcases h.own.2 with hv | ⟨g, cap, cur, hv, hg, hh, r⟩
  · exact .inl hv
  · exact .inr ⟨g, cap, cur, hv, hg, by rw [hb.block g (Array.getElem?_eq_some_iff.1 hh).1]; exact hh, r⟩

/-- The cells of a slice, as 'append' asks for them. -/
theorem Bs.news {w : World} {ad : Addr} {n c : Nat} {bs : List Int} (h : Bs w (some ad) n c bs) : ∀ j u, (bs.map (Value.int .u8))[j]? = some u → w.cell? (ad.add j) = some u := by
  intro j u hu
  have hj : j < bs.length := by
    have := (List.getElem?_eq_some_iff.1 hu).1
    simpa using this
  rcases h.at' with h0 | ⟨b, off, e, hc⟩
  · have := h.len; omega
  · obtain rfl := Option.some.inj e
    have := hc j (by have := h.len; omega)
    rw [Addr.add_lit, this]
    simp [List.getElem?_eq_getElem hj] at hu
    simp [hu, List.getElem?_eq_getElem hj]

/-- 'append(out, xs...)', out of the call's own. -/
theorem wpList_app {ops : Array Oper} {rest : List Oper} {o : Oper} {a : Act} {w : World} {Q : Exit → Act → World → Prop} (hgd : o.guard = none) (s x : Operand)
    (ho : o.op = .call { callee := .builtin .append, args := #[s, x], argTypes := #[32, 32] })
    (B : Nat) (ao : Option Addr) (n c : Nat) (bs : List Int) (hs : a.eval s = .slice ao n c) (hm : Mine B w ao n c bs)
    (ao' : Option Addr) (m c' : Nat) (cs : List Int) (hx : a.eval x = .slice ao' m c') (hb : Bs w ao' m c' cs) (hbound : n + m ≤ 140737488355328) (hB : B ≤ w.heap.size)
    (h : ∀ ao1 c1 w1, Mine B w1 ao1 (n + m) c1 (bs ++ cs) → Below B w w1 → wpList Tryz.prog ops Q rest (a.put o.dst (.slice ao1 (n + m) c1)) w1) :
    wpList Tryz.prog ops Q (o :: rest) a w := by
  obtain ⟨i0, hi, hz0, hz1, hz2⟩ := info_parts Tryz.infoByte
  have hlen := hm.len
  have hlen' := hb.len
  cases ao' with
  | none =>
    have hc' := hb.nil rfl
    have hm0 : m = 0 := by have := hb.le; omega
    subst hm0
    subst hc'
    have hcs : cs = [] := List.eq_nil_of_length_eq_zero hlen'
    subst hcs
    refine wpList_append_own_none hgd s x 32 ho B 5 i0 1 Tryz.underlying32 hi _ _ _ hs hm.own hx ?_
    exact h ao c w (by simpa using hm) (Below.refl _ _)
  | some ad =>
    refine wpList_append_own w hgd s x 32 ho B 5 i0 (.int .u8 0) 1 1 Tryz.underlying32 hi hz0 hz1 hz2 rfl (by decide) _ _ _ hs hm.own ad m c' (cs.map (Value.int .u8)) hx (by simp [hlen']) hb.news (ints_oneCell _ _) (by unfold maxLen; omega) (by omega) hB ?_
    intro v' w' hown hgrow _
    rw [← List.map_append] at hown
    have hbel : Below B w w' := (Below.refl B w).grown hgrow hB (fun k hk => (hm.own.lt k hk).1)
    have hex : ∃ ao1 c1, v' = .slice ao1 (n + m) c1 := by
      rcases hown.2 with ⟨hv, h0⟩ | ⟨g, cap, cur, hv, _⟩
      · exact ⟨.none, 0, by rw [hv, h0]⟩
      · exact ⟨_, _, hv⟩
    obtain ⟨ao1, c1, hv⟩ := hex
    subst hv
    exact h ao1 c1 w' ⟨by simp [hlen, hlen'], hown, hm.byt.app hb.byt⟩ hbel

/-- The address of 's[lo:..]'. -/
def cutAt (ao : Option Addr) (c lo : Nat) : Option Addr := if c = lo then ao else ao.map (·.add (lo * 1))

/-- A piece of a slice is a slice. -/
theorem Bs.cut {w : World} {ao : Option Addr} {n c : Nat} {bs : List Int} (h : Bs w ao n c bs) {lo hi : Nat} (h1 : lo ≤ hi) (h2 : hi ≤ n) : Bs w (cutAt ao c lo) (hi - lo) (c - lo) ((bs.drop lo).take (hi - lo)) := by
  have hl := h.len
  have hle := h.le
  refine ⟨by simp [hl]; omega, by omega, by have := h.max; omega, fun e => ?_, (h.byt.drop lo).take _, ?_⟩
  · have : ao = none := by
      unfold cutAt at e
      split at e
      · exact e
      · simpa using e
    have := h.nil this
    omega
  · by_cases hz : hi - lo = 0
    · exact .inl hz
    · right
      rcases h.at' with h0 | ⟨b, off, rfl, hc⟩
      · omega
      · refine ⟨b, off + lo, by unfold cutAt; rw [if_neg (by omega)]; simp [Addr.add_lit], fun i hi => ?_⟩
        have := hc (lo + i) (by omega)
        rw [Nat.add_assoc, this]
        simp [hi]

theorem Tryz.sizeByte (w : World) : (sizeOf (Tryz.prog.elem 32)).run Tryz.prog w = .ok 1 w := by kernel_rfl
theorem Tryz.elemBytes : Tryz.prog.underlying 32 = some (.slice (Tryz.prog.elem 32)) := by kernel_rfl

theorem run_cut_lh (ao : Option Addr) (n c lo hi : Nat) (h1 : lo ≤ hi) (h2 : hi ≤ c) (L H : Int) (hL : L = lo) (hH : H = hi) (w : World) :
    (Instr.slice 32 (.slice ao n c) (some (.int .i64 L)) (some (.int .i64 H)) none).run Tryz.prog w = .ok (.slice (cutAt ao c lo) (hi - lo) (c - lo)) w := by
  subst hL hH
  rw [run_slice_lh w 32 ao n c Tryz.elemBytes .i64 .i64 lo hi (by omega) (by omega) (by omega), Tryz.sizeByte]
  rfl
theorem run_cut_h (ao : Option Addr) (n c hi : Nat) (h2 : hi ≤ c) (H : Int) (hH : H = hi) (w : World) :
    (Instr.slice 32 (.slice ao n c) none (some (.int .i64 H)) none).run Tryz.prog w = .ok (.slice (cutAt ao c 0) (hi - 0) (c - 0)) w := by
  subst hH
  rw [run_slice_h w 32 ao n c Tryz.elemBytes .i64 hi (by omega) (by omega), Tryz.sizeByte]
  rfl
theorem run_cut_l (ao : Option Addr) (n c lo : Nat) (h1 : lo ≤ n) (L : Int) (hL : L = lo) (w : World) :
    (Instr.slice 32 (.slice ao n c) (some (.int .i64 L)) none none).run Tryz.prog w = .ok (.slice (cutAt ao c lo) (n - lo) (c - lo)) w := by
  subst hL
  rw [run_slice_l w 32 ao n c Tryz.elemBytes .i64 lo (by omega) (by omega), Tryz.sizeByte]
  rfl

/-- 's[lo:hi]' for the walk: a new value of which its bytes are known. -/
theorem Bs.cut_lh {w : World} {ao : Option Addr} {n c : Nat} {bs : List Int} (h : Bs w ao n c bs) {lo hi : Nat} (h1 : lo ≤ hi) (h2 : hi ≤ n) (L H : Int) (hL : L = lo) (hH : H = hi) :
    ∃ ao' c', (∀ wx, (Instr.slice 32 (.slice ao n c) (some (.int .i64 L)) (some (.int .i64 H)) none).run Tryz.prog wx = .ok (.slice ao' (hi - lo) c') wx) ∧ Bs w ao' (hi - lo) c' ((bs.drop lo).take (hi - lo)) :=
  ⟨_, _, run_cut_lh ao n c lo hi h1 (by have := h.le; omega) L H hL hH, h.cut h1 h2⟩
theorem Bs.cut_h {w : World} {ao : Option Addr} {n c : Nat} {bs : List Int} (h : Bs w ao n c bs) {hi : Nat} (h2 : hi ≤ n) (H : Int) (hH : H = hi) :
    ∃ ao' c', (∀ wx, (Instr.slice 32 (.slice ao n c) none (some (.int .i64 H)) none).run Tryz.prog wx = .ok (.slice ao' hi c') wx) ∧ Bs w ao' hi c' (bs.take hi) :=
  ⟨_, _, run_cut_h ao n c hi (by have := h.le; omega) H hH, by simpa using h.cut (Nat.zero_le hi) h2⟩
theorem Bs.cut_l {w : World} {ao : Option Addr} {n c : Nat} {bs : List Int} (h : Bs w ao n c bs) {lo : Nat} (h1 : lo ≤ n) (L : Int) (hL : L = lo) :
    ∃ ao' c', (∀ wx, (Instr.slice 32 (.slice ao n c) (some (.int .i64 L)) none none).run Tryz.prog wx = .ok (.slice ao' (n - lo) c') wx) ∧ Bs w ao' (n - lo) c' (bs.drop lo) :=
  ⟨_, _, run_cut_l ao n c lo h1 L hL, by have := h.cut h1 (Nat.le_refl n); rwa [List.take_of_length_le (by simp [h.len])] at this⟩

end Go.Proofs.YtddfbaaghjcbnaaGreatDoor
