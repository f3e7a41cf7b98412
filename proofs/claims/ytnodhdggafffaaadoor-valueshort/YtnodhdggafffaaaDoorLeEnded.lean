/-
  What ReadEnded returns for any bytes, and where a byte 0 is found in bytes and in a text. Nothing is written. Conditions: none but that the slice can be read.
-/
import Derived.Test.YtnodhdggafffaaaDoorLeTexts
import Derived.Lib.IndexLaws
namespace Go.Proofs.YtnodhdggafffaaaDoor
open Go.RowKit
set_option linter.unusedVariables false
set_option linter.unusedSimpArgs false


/-- Where the first 0 stands: -1 where there is none. -/
def idx0 : List Int → Int
  | [] => -1
  | b :: l => if b = 0 then 0 else if idx0 l = -1 then -1 else idx0 l + 1

theorem idx0_bounds : ∀ l : List Int, -1 ≤ idx0 l ∧ idx0 l < l.length
  | [] => by simp [idx0]
  | b :: l => by
    have ih := idx0_bounds l
    unfold idx0
    simp only [List.length_cons]
    split
    · omega
    · split <;> omega

theorem idx0_found : ∀ (l : List Int) (i : Nat), i < l.length → l.getD i 0 = 0 → (∀ j, j < i → l.getD j 0 ≠ 0) → idx0 l = i
  | [], i, h, _, _ => by simp at h
  | b :: l, 0, _, h, _ => by simp at h; simp [idx0, h]
  | b :: l, i + 1, hl, h, hn => by
    have h0 := hn 0 (by omega)
    simp at h0
    have ih := idx0_found l i (by simpa using hl) (by simpa using h) (fun j hj => by simpa using hn (j + 1) (by omega))
    unfold idx0
    rw [if_neg h0, if_neg (by rw [ih]; omega), ih]
    rfl

theorem idx0_none : ∀ (l : List Int), (∀ j, j < l.length → l.getD j 0 ≠ 0) → idx0 l = -1
  | [], _ => rfl
  | b :: l, hn => by
    have h0 := hn 0 (by simp)
    simp at h0
    have ih := idx0_none l (fun j hj => by simpa using hn (j + 1) (by simpa using hj))
    unfold idx0
    rw [if_neg h0, if_pos ih]

theorem idx0_lib : ∀ {l : List Int}, Byt l → Lib.indexByte (Lib.bytesOf l) (0 : Int).toNat.toUInt8 = idx0 l
  | [], _ => rfl
  | b :: l, h => by
    have hb := h b (by simp)
    have ih := idx0_lib (l := l) (fun z hz => h z (List.mem_cons_of_mem _ hz))
    show (if (UInt8.ofNat b.toNat == (0 : Int).toNat.toUInt8) = true then (0 : Int) else if (Lib.indexByte (Lib.bytesOf l) (0 : Int).toNat.toUInt8 == -1) = true then -1 else Lib.indexByte (Lib.bytesOf l) (0 : Int).toNat.toUInt8 + 1) = _
    rw [ih]
    show _ = (if b = 0 then (0 : Int) else if idx0 l = -1 then -1 else idx0 l + 1)
    have e : (UInt8.ofNat b.toNat == (0 : Int).toNat.toUInt8) = decide (b = 0) := by
      rw [Bool.eq_iff_iff]
      simp only [beq_iff_eq, decide_eq_true_eq]
      constructor
      · intro hq
        have := congrArg UInt8.toNat hq
        simp only [UInt8.toNat_ofNat'] at this
        have e0 : (0 : Int).toNat = 0 := rfl
        rw [e0] at this
        omega
      · intro hq; subst hq; decide
    rw [e]
    simp

theorem Bs.index {w : World} {ao : Option Addr} {n c : Nat} {bs : List Int} (h : Bs w ao n c bs) :
    (Extern.BytealgIndexByte.indexByte #[.slice ao n c, .int .u8 0]).run Tryd.prog w = .ok (.int .i64 (idx0 bs)) w := by
  have hl := h.len
  rcases h.at' with h0 | ⟨b, off, rfl, hc⟩
  · subst h0
    have hb : bs = [] := List.eq_nil_of_length_eq_zero hl
    subst hb
    cases ao with
    | none => exact Lib.run_indexByteNil w 0 c 0
    | some a => exact Lib.run_indexByteNil w 0 c 0
  · rw [Lib.run_indexByteSlice w b off n c bs hl hc 0, idx0_lib h.byt]


theorem bytesOf_nums (s : ByteArray) : Lib.bytesOf (nums s) = s.data.toList := by
  have : ((fun n : Int => UInt8.ofNat n.toNat) ∘ fun b : UInt8 => (b.toNat : Int)) = id := by funext b; simp
  simp only [Lib.bytesOf, nums, List.map_map, this, List.map_id]

theorem str_nums (s : ByteArray) : strOfNums (nums s) = s := by
  apply ByteArray.ext
  apply Array.ext'
  show (strOfNums (nums s)).data.toList = _
  rw [strOfNums_data]
  exact bytesOf_nums s

theorem nums_str {l : List Int} (h : Byt l) : nums (strOfNums l) = l := by
  apply nums_inj (nums_byt _) h
  show Lib.bytesOf (nums (strOfNums l)) = _
  rw [bytesOf_nums, strOfNums_data]

theorem nums_at (s : ByteArray) (i : Nat) (h : i < s.size) : (nums s).getD i 0 = (s[i].toNat : Int) := by
  have h2 : i < s.data.size := h
  simp only [nums, List.getD_eq_getElem?_getD, List.getElem?_map, Array.getElem?_toList, Array.getElem?_eq_getElem h2, Option.map_some, Option.getD_some]
  rfl



/-- The result of ReadEnded: the text, how many bytes, the error. -/
def readEnded (bs : List Int) : ByteArray × Int × Int := if idx0 bs < 0 then (⟨#[]⟩, 0, 4) else (strOfNums (bs.take (idx0 bs).toNat), idx0 bs + 1, 0)


/-- None of the first m bytes is 0. -/
def NoZero (bs : List Int) (m : Nat) : Prop := ∀ j, j < m → bs.getD j 0 ≠ 0

theorem NoZero.start (bs : List Int) : NoZero bs 0 := fun j hj => by omega

theorem NoZero.step {bs : List Int} {m : Nat} (h : NoZero bs m) (hm : bs.getD m 0 ≠ 0) : NoZero bs (m + 1) := by
  intro j hj
  by_cases e : j = m
  · subst e; exact hm
  · exact h j (by omega)

theorem readEnded_none {bs : List Int} (h : NoZero bs bs.length) : readEnded bs = (⟨#[]⟩, 0, 4) := by
  unfold readEnded
  rw [idx0_none bs h]
  rfl

theorem readEnded_found {bs : List Int} {m : Nat} (h : NoZero bs m) (hm : m < bs.length) (h0 : bs.getD m 0 = 0) : readEnded bs = (strOfNums (bs.take m), (m : Int) + 1, 0) := by
  unfold readEnded
  rw [idx0_found bs m hm h0 h, if_neg (by omega), Int.toNat_natCast]


end Go.Proofs.YtnodhdggafffaaaDoor
