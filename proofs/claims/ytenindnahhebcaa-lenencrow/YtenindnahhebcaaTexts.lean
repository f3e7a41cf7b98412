/-
  What ReadText and SameBytes return for any bytes. They write nothing. Conditions: none but that the slices can be read.
-/
import Derived.Test.YtenindnahhebcaaIntsRef
import Derived.Lib.BytesEntry
namespace Go.Proofs.Ytenindnahhebcaa
open Go.RowKit
set_option linter.unusedVariables false
set_option linter.unusedSimpArgs false

theorem Bs.str {w : World} {ao : Option Addr} {n c : Nat} {bs : List Int} (h : Bs w ao n c bs) : (convert 22 9 (.slice ao n c)).run Try.prog w = .ok (.string (strOfNums bs)) w := by
  have hl := h.len
  rcases h.at' with h0 | ⟨b, off, rfl, hc⟩
  · subst h0
    have hb : bs = [] := List.eq_nil_of_length_eq_zero hl
    subst hb
    cases ao with
    | none => exact run_convert_bytes_nil w 22 5 Try.underlying22 Try.underlying5 0 c 9 Try.underlying9
    | some a =>
      rw [run_convert_bytes_string w 22 9 5 _ 0 c Try.underlying22 Try.underlying5 Try.underlying9, run_bytesToString w a 0 c [] (by simp [loadCells, loadCellsFrom])]
      rfl
  · exact run_convert_bytes_arg w 22 5 Try.underlying22 Try.underlying5 b off n c bs hl hc 9 Try.underlying9

/-- Bytes are known by the string that they make. -/
theorem nums_inj : ∀ {a b : List Int}, Byt a → Byt b → a.map (fun n => UInt8.ofNat n.toNat) = b.map (fun n => UInt8.ofNat n.toNat) → a = b
  | [], [], _, _, _ => rfl
  | [], _ :: _, _, _, h => by simp at h
  | _ :: _, [], _, _, h => by simp at h
  | x :: r, y :: s, ha, hb, h => by
    simp only [List.map_cons, List.cons.injEq] at h
    obtain ⟨h1, h2⟩ := h
    have hx := ha x (by simp)
    have hy := hb y (by simp)
    have e : x = y := by
      have := congrArg UInt8.toNat h1
      simp only [UInt8.toNat_ofNat'] at this
      omega
    rw [e, nums_inj (fun z hz => ha z (List.mem_cons_of_mem _ hz)) (fun z hz => hb z (List.mem_cons_of_mem _ hz)) h2]

theorem str_eq {a b : List Int} (ha : Byt a) (hb : Byt b) : ((strOfNums a).toList == (strOfNums b).toList) = decide (a = b) := by
  rw [Bool.eq_iff_iff]
  simp only [beq_iff_eq, decide_eq_true_eq]
  constructor
  · intro h
    apply nums_inj ha hb
    have e : ∀ l : List Int, (strOfNums l).toList = l.map (fun n => UInt8.ofNat n.toNat) := fun l => by
      rw [ByteArray.toList_eq, strOfNums_data]
    rw [e, e] at h
    exact h
  · intro h; rw [h]

set_option maxHeartbeats 400000 in
theorem sameBytes_any (ao : Option Addr) (n c : Nat) (cs : List Int) (bo : Option Addr) (m d : Nat) (bs : List Int) (w : World) (h : Bs w ao n c cs) (k : Bs w bo m d bs) :
    Calls Try.prog 10 #[.slice ao n c, .slice bo m d] w fun e w' => e = .returned (.bool (decide (cs = bs))) ∧ w' = w := by
  have h1 := h.str
  have h2 := k.str
  have he := hide (str_eq h.byt k.byt)
  clear h k
  go_enter Try.func10, Try.ntmps10
  go_wp2
  go_ret
  refine ⟨?_, rfl⟩
  rw [← unhide he]
  rfl

/-- The result of ReadText: the text, how many bytes, the error. -/
def readText (bs : List Int) : ByteArray × Int × Int :=
  if (readInt bs).2.2 ≠ 0 then (⟨#[]⟩, 0, (readInt bs).2.2) else if (bs.length : Int) - (readInt bs).2.1 < (readInt bs).1 then (⟨#[]⟩, 0, 4)
  else (strOfNums ((bs.drop (readInt bs).2.1.toNat).take (readInt bs).1.toNat), (readInt bs).2.1 + (readInt bs).1, 0)

theorem readText_err {bs : List Int} {x n e : Int} (h : readInt bs = (x, n, e)) (he : e ≠ 0) : readText bs = (⟨#[]⟩, 0, e) := by
  unfold readText; rw [h]; simp [he]
theorem readText_short {bs : List Int} {x n : Int} (h : readInt bs = (x, n, 0)) (hs : (bs.length : Int) - n < x) : readText bs = (⟨#[]⟩, 0, 4) := by
  unfold readText; rw [h]; simp [hs]
theorem readText_long {bs : List Int} {x n : Int} (h : readInt bs = (x, n, 0)) (hs : ¬ (bs.length : Int) - n < x) : readText bs = (strOfNums ((bs.drop n.toNat).take x.toNat), n + x, 0) := by
  unfold readText; rw [h]; simp [hs]

theorem tup3s {k l : IntKind} {s s' : ByteArray} {a b a' b' : Int} (hs : s = s') (h : a = a') (h2 : b = b') : Ending.returned (.tuple #[.string s, .int k a, .int l b]) = .returned (.tuple #[.string s', .int k a', .int l b']) := by rw [hs, h, h2]

set_option maxHeartbeats 400000 in
set_option maxRecDepth 100000 in
theorem readText_any (ao : Option Addr) (n c : Nat) (bs : List Int) (w : World) (h : Bs w ao n c bs) :
    Calls Try.prog 12 #[.slice ao n c] w fun e w' => e = .returned (.tuple #[.string (readText bs).1, .int .i64 (readText bs).2.1, .int .i64 (readText bs).2.2]) ∧ w' = w := by
  have cR := readInt_any ao n c bs w h
  have hlen := h.len
  have hmax := h.max
  have hle := h.le
  obtain ⟨x, q, er, hr⟩ : ∃ x q er, readInt bs = (x, q, er) := ⟨_, _, _, rfl⟩
  rw [hr] at cR
  by_cases he : er = 0
  · subst he
    have hb := readInt_shortest h.byt hr
    obtain ⟨hx0, hx1, hq1, hq2⟩ := hb
    have hq0 : 0 ≤ q := by omega
    rw [hlen] at hq2
    clear hq1
    by_cases hs : (n : Int) - q < x
    · rw [readText_short hr (by rw [hlen]; exact hs)]
      clear hr hlen
      have CR := hide cR
      clear cR
      go_enter Try.func12, Try.ntmps12
      go_wp2_with (go_at_call 11; refine (unhide CR).mono ?_; rintro e w' ⟨rfl, rfl⟩)
      go_ret3
      exact ⟨rfl, rfl⟩
    · rw [readText_long hr (by rw [hlen]; exact hs)]
      obtain ⟨Q, rfl⟩ := Int.eq_ofNat_of_zero_le hq0
      obtain ⟨X, rfl⟩ := Int.eq_ofNat_of_zero_le hx0
      obtain ⟨ao', c', hsl, hbs⟩ := h.cut_lh (lo := Q) (hi := Q + X) (by omega) (by omega) Q ((Q : Int) + (X : Int)) rfl (by omega)
      have hst := hbs.str
      rw [Nat.add_sub_cancel_left] at hsl hbs hst
      have hXn : (Q : Int) + (X : Int) ≤ (n : Int) := by omega
      clear hr hlen hbs h hx1 hx0 hq0 hq2
      have CR := hide cR
      clear cR
      rw [Int.toNat_natCast, Int.toNat_natCast]
      go_enter Try.func12, Try.ntmps12
      go_wp2_with (go_at_call 11; refine (unhide CR).mono ?_; rintro e w' ⟨rfl, rfl⟩)
      go_ret3
      exact ⟨rfl, rfl⟩
  · rw [readText_err hr he]
    clear hr hlen
    have CR := hide cR
    clear cR
    have hne : (er != 0) = true := by simpa using he
    go_enter Try.func12, Try.ntmps12
    go_wp2_with (go_at_call 11; refine (unhide CR).mono ?_; rintro e w' ⟨rfl, rfl⟩)
    go_ret3
    exact ⟨rfl, rfl⟩

set_option maxHeartbeats 400000 in
set_option maxRecDepth 100000 in
theorem readText_ref (ao : Option Addr) (n c : Nat) (bs : List Int) (w : World) (h : Bs w ao n c bs) :
    Calls Try.prog 29 #[.slice ao n c] w fun e w' => e = .returned (.tuple #[.string (readText bs).1, .int .i64 (readText bs).2.1, .int .i64 (readText bs).2.2]) ∧ w' = w := by
  have cR := readInt_ref ao n c bs w h
  have hlen := h.len
  have hmax := h.max
  have hle := h.le
  obtain ⟨x, q, er, hr⟩ : ∃ x q er, readInt bs = (x, q, er) := ⟨_, _, _, rfl⟩
  rw [hr] at cR
  by_cases he : er = 0
  · subst he
    have hb := readInt_shortest h.byt hr
    obtain ⟨hx0, hx1, hq1, hq2⟩ := hb
    have hq0 : 0 ≤ q := by omega
    rw [hlen] at hq2
    clear hq1
    by_cases hs : (n : Int) - q < x
    · rw [readText_short hr (by rw [hlen]; exact hs)]
      clear hr hlen
      have CR := hide cR
      clear cR
      go_enter Try.func29, Try.ntmps29
      go_wp2_with (go_at_call 21; refine (unhide CR).mono ?_; rintro e w' ⟨rfl, rfl⟩)
      go_ret3
      exact ⟨rfl, rfl⟩
    · rw [readText_long hr (by rw [hlen]; exact hs)]
      obtain ⟨Q, rfl⟩ := Int.eq_ofNat_of_zero_le hq0
      obtain ⟨X, rfl⟩ := Int.eq_ofNat_of_zero_le hx0
      obtain ⟨ao', c', hsl, hbs⟩ := h.cut_lh (lo := Q) (hi := Q + X) (by omega) (by omega) Q ((Q : Int) + (X : Int)) rfl (by omega)
      have hst := hbs.str
      rw [Nat.add_sub_cancel_left] at hsl hbs hst
      have hXn : (Q : Int) + (X : Int) ≤ (n : Int) := by omega
      clear hr hlen hbs h hx1 hx0 hq0 hq2
      have CR := hide cR
      clear cR
      rw [Int.toNat_natCast, Int.toNat_natCast]
      go_enter Try.func29, Try.ntmps29
      go_wp2_with (go_at_call 21; refine (unhide CR).mono ?_; rintro e w' ⟨rfl, rfl⟩)
      go_ret3
      exact ⟨rfl, rfl⟩
  · rw [readText_err hr he]
    clear hr hlen
    have CR := hide cR
    clear cR
    have hne : (er != 0) = true := by simpa using he
    go_enter Try.func29, Try.ntmps29
    go_wp2_with (go_at_call 21; refine (unhide CR).mono ?_; rintro e w' ⟨rfl, rfl⟩)
    go_ret3
    exact ⟨rfl, rfl⟩

end Go.Proofs.Ytenindnahhebcaa
