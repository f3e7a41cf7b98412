/-
  What plugin and attrs of the writer of logins' packets leave. Conditions: lengths below 2 to the 40.
-/
import Derived.Test.YtkijdkbkbelliaaGpWr
import Derived.Test.YtkijdkbkbelliaaGpLeaf
import Derived.Test.YtkijdkbkbelliaaGpAt
namespace Go.Proofs.Ytkijdkbkbelliaa
open Go.RowKit
set_option linter.unusedVariables false
set_option linter.unusedSimpArgs false

/-- A plugin's bytes; the attributes' bytes, alone and with their count ahead. -/
def plB (c : Int) (s : ByteArray) : List Int := if has c 524288 = true then nums s ++ [0] else []
def aB (l : List At) : List Int := l.flatMap fun a => (form a.n.size ++ nums a.n) ++ (form a.v.size ++ nums a.v)
def atB (c : Int) (l : List At) : List Int := if has c 1048576 = true then form ((aB l).length : Int) ++ aB l else []

theorem aB_app (l : List At) (a : At) : aB (l ++ [a]) = aB l ++ ((form a.n.size ++ nums a.n) ++ (form a.v.size ++ nums a.v)) := by simp [aB]
theorem aB_byt (l : List At) : Byt (aB l) := by
  induction l with
  | nil => exact Byt.nil
  | cons a l ih => exact (((form_byt (by omega)).app (nums_byt _)).app ((form_byt (by omega)).app (nums_byt _))).app ih
theorem aB_next {l : List At} {j : Nat} {a : At} (h : l[j]? = some a) : aB (l.take (j + 1)) = aB (l.take j) ++ ((form a.n.size ++ nums a.n) ++ (form a.v.size ++ nums a.v)) := by
  rw [List.take_add_one, h]
  exact aB_app _ _
theorem aB_le (l : List At) (j : Nat) : (aB (l.take j)).length ≤ (aB l).length := by
  have h : aB l = aB (l.take j) ++ aB (l.drop j) := by
    unfold aB
    rw [← List.flatMap_append, List.take_append_drop]
  rw [h, List.length_append]
  omega

set_option maxHeartbeats 400000 in
theorem wplugin_any (B g : Nat) (w : World) (ao : Option Addr) (n c : Nat) (l : List Int) (h : Wl B g w ao n c l) (hB : B ≤ w.heap.size) (cp : Int) (s : ByteArray) (hs : has cp 524288 = true → idx0 (nums s) < 0) (hn : n + s.size + 1 ≤ 1099511627776) :
    Calls Try.prog 95 #[.pointer (some ⟨g, 0, none⟩), .int .u32 cp, .string s] w fun e w' => e = .returned (.tuple #[]) ∧ OutW B g w ao (l ++ plB cp s) w' := by
  cases q : (bits .and .u32 cp 524288 == 0)
  · have q' : (bits .and .u32 cp 524288 != 0) = true := by rw [bne, q]; rfl
    have cE := hide (wended_any B g w ao n c l h hB s (hs (by unfold has; rw [q]; rfl)) hn)
    rw [show plB cp s = nums s ++ [0] by unfold plB has; rw [q]; rfl]
    clear h hs
    go_enter Try.func95, Try.ntmps95
    go_wp2_with fail
    refine (unhide cE).mono ?_
    rintro e w' ⟨rfl, ho⟩
    have HO := hide ho
    clear ho
    go_wp2_with fail
    refine bodyPost_end (results_none rfl _ _ _) rfl ?_
    exact ⟨rfl, unhide HO⟩
  · have q' : (bits .and .u32 cp 524288 != 0) = false := by rw [bne, q]; rfl
    rw [show plB cp s = [] by unfold plB has; rw [q]; rfl, List.append_nil]
    have H := hide h
    clear h hs
    go_enter Try.func95, Try.ntmps95
    go_wp2_with fail
    refine bodyPost_end (results_none rfl _ _ _) rfl ?_
    exact ⟨rfl, _, _, _, unhide H, Fs.refl _ _⟩

set_option maxHeartbeats 2000000 in
set_option maxRecDepth 100000 in
theorem wattrs_any (B g : Nat) (w : World) (ao : Option Addr) (n c : Nat) (l : List Int) (h : Wl B g w ao n c l) (hB : B ≤ w.heap.size) (cp : Int) (lo : Option Addr) (ln lc : Nat) (ls : List At) (hA : As w lo ln lc ls) (hn : n + (aB ls).length + 9 ≤ 1099511627776) :
    Calls Try.prog 109 #[.pointer (some ⟨g, 0, none⟩), .int .u32 cp, .slice lo ln lc] w fun e w' => e = .returned (.tuple #[]) ∧ OutW B g w ao (l ++ atB cp ls) w' := by
  cases q : (bits .and .u32 cp 1048576 == 0)
  · rw [show atB cp ls = form ((aB ls).length : Int) ++ aB ls by unfold atB has; rw [q]; rfl]
    have cN := hide (newWriter_any none 0 0 [] w (Bs.nought w) (by omega))
    have H := hide h
    have HA := hide hA
    have hal := hA.len
    have hale := hA.le
    have hamx := hA.max
    have hlt := h.lt
    have hnl := h.own.len
    clear h hA
    go_enter Try.func109, Try.ntmps109
    go_wp2_with fail
    refine (unhide cN).mono ?_
    rintro e w1 ⟨g1, ao1, n1, c1, rfl, h1, b1⟩
    have H1 := hide h1
    have B1 := hide b1
    clear h1 b1 cN
    go_wp2_with fail
    go_loopw [15] (fun i ws => ∃ (j : Nat) (yo : Option Addr) (yn yc : Nat), j ≤ ln ∧ i = .int .i64 (j : Int) ∧ Wl w.heap.size g1 ws yo yn yc (aB (ls.take j)) ∧ Below w.heap.size w ws) (fun i _ => ln - (intOf i).toNat)
    case atStart => exact ⟨0, _, _, _, by omega, rfl, unhide H1, unhide B1⟩
    case round =>
      clear H1 B1
      obtain ⟨j, yo, yn, yc, hj, rfl, hW, hb⟩ := hrel
      have hle1 := aB_le ls j
      have hwl := hW.own.len
      by_cases hlt : j < ln
      · have hjs : ls[j]? = some (ls[j]'(by omega)) := List.getElem?_eq_getElem (by omega)
        obtain ⟨a, ha⟩ : ∃ a, ls[j]'(by omega) = a := ⟨_, rfl⟩
        rw [ha] at hjs
        have hnx := aB_next hjs
        have hle2 := aB_le ls (j + 1)
        obtain ⟨pb, po, hix, k0, k1⟩ := ((unhide HA).later hb).idx hjs (j : Int) rfl
        have hz := hb.size
        obtain ⟨wv, hwv⟩ : ∃ wv, wv = wr.alloc (.cells #[.string a.n, .string a.v] 125) := ⟨_, rfl⟩
        have bv : Below wr.heap.size wr wv := by rw [hwv]; exact below_alloc wr _
        have q0 : Ax wv wr.heap.size a := by rw [hwv]; exact heap_alloc_new wr _
        have hzv := bv.size
        have hql := q0.lt
        have cT := hide (wtext_any w.heap.size g1 wv yo yn yc _ (hW.later bv) (by omega) a.n (by rw [hnx] at hle2; simp [nums_length] at hle2; have := form_length_le (a.n.size : Int); omega))
        have t0 := q0.c0
        have HV := hide hwv
        have HW := hide (hW.later bv)
        have HBV := hide (hb.trans (bv.mono hz))
        have HQ := hide q0
        have HNO := hide (show ¬ wf g1 yo wr.heap.size from fun q => by
          rcases q with q | q
          · have := hW.lt; omega
          · have := (hW.own.ob q).2; omega)
        have HNX := hide hnx
        rw [hnx] at hle2
        simp only [List.length_append] at hle2
        have HLE := hide hle2
        clear hwv q0 bv hW hb hnx hle2
        go_wp2_with fail
        rw [← unhide HV]
        refine (unhide cT).mono ?_
        rintro e w2 ⟨rfl, zo, zn, zc, hW2, f2⟩
        have hz2 := f2.size
        have q2 : Ax w2 wr.heap.size a := (f2.block _ hql (unhide HNO)).trans (unhide HQ)
        have t1 := q2.c1
        have hl2 := hW2.own.len
        simp only [List.length_append] at hl2
        have cT2 := hide (wtext_any w.heap.size g1 w2 zo zn zc _ hW2 (by omega) a.v (by have := unhide HLE; rw [nums_length, nums_length] at this; rw [nums_length] at hl2; omega))
        have HB2 := hide ((unhide HBV).trans ((unhide HW).below (by omega) f2))
        have HW2 := hide hW2
        clear hW2 f2 q2 cT HW HQ HNO HV t0
        go_wp2_with fail
        refine (unhide cT2).mono ?_
        rintro e w3 ⟨rfl, uo, un, uc, hW3, f3⟩
        have HW3 := hide hW3
        have HB3 := hide ((unhide HB2).trans ((unhide HW2).below (by omega) f3))
        clear hW3 f3 cT2
        go_wp2_with fail
        go_roundw
        case rel =>
          have := unhide HW3
          rw [List.append_assoc, ← unhide HNX] at this
          exact ⟨j + 1, _, _, _, by omega, by go_num, this, unhide HB3⟩
        case measure => simp [intOf]; omega
      · have e : j = ln := by omega
        subst e
        rw [List.take_of_length_le (by omega)] at hW hwl
        have d0 := hW.c0
        have hstr := hW.own.bs.str
        have hz := hb.size
        have cT := hide (wtext_any B g wr ao n c l ((unhide H).later hb) (by omega) (strOfNums (aB ls)) (by
          rw [show (strOfNums (aB ls)).size = (strOfNums (aB ls)).data.toList.length by simp, strOfNums_data]
          simp
          omega))
        have esz : (strOfNums (aB ls)).size = (aB ls).length := by
          rw [show (strOfNums (aB ls)).size = (strOfNums (aB ls)).data.toList.length by simp, strOfNums_data]
          simp
        rw [esz, nums_str (aB_byt ls)] at cT
        have HB := hide hb
        clear hb hW hle1 hwl esz
        go_wp2_with fail
        refine (unhide cT).mono ?_
        rintro e w2 ⟨rfl, zo, zn, zc, hW2, f2⟩
        have HO := hide hW2
        have HF := hide ((Fs.same (S := wf g ao) (unhide HB)).trans f2)
        clear hW2 f2 cT
        go_wp2_with fail
        refine bodyPost_end (results_none rfl _ _ _) rfl ?_
        exact ⟨rfl, _, _, _, unhide HO, unhide HF⟩
  · rw [show atB cp ls = [] by unfold atB has; rw [q]; rfl, List.append_nil]
    have H := hide h
    clear h hA
    go_enter Try.func109, Try.ntmps109
    go_wp2_with fail
    first
      | refine bodyPost_ret (results_none rfl _ _ _) rfl ?_
      | refine bodyPost_end (results_none rfl _ _ _) rfl ?_
    exact ⟨rfl, _, _, _, unhide H, Fs.refl _ _⟩

end Go.Proofs.Ytkijdkbkbelliaa
