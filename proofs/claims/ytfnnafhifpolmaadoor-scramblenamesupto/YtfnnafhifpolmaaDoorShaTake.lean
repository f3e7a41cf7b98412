/-
  What take of package sha does: so many bytes more. Conditions: a hash of one of the two kinds, that lies apart from the bytes; the table of constants holds what the program's text says; fewer than 10 to the 12 bytes.
-/
import Derived.Test.YtfnnafhifpolmaaDoorShaStream
import Derived.Test.YtfnnafhifpolmaaDoorShaEnd1
import Derived.Test.YtfnnafhifpolmaaDoorShaEnd2
namespace Go.Proofs.YtfnnafhifpolmaaDoor
open Go.RowKit
set_option linter.unusedVariables false
set_option linter.unusedSimpArgs false

theorem endBlock_any (g : Nat) (k : Int) (W R : List Int) (c : Int) (w : World) (h : Hs w g k W R c) (hk : k = 1 ∨ k = 2) (hWw : Wds W) (hR : Byt R) (hg : 1 ≤ g) (hv : Vars w) :
    Calls Tryd.prog 53 #[.pointer (some ⟨g, 0, none⟩)] w fun e w' => e = .returned (.tuple #[]) ∧ Hs w' g k (mixk k W (wds R)) (zs 64) c ∧ Gb g w w' := by
  rcases hk with rfl | rfl
  · rw [show mixk 1 W (wds R) = mix1 W (wds R) from rfl]
    exact endBlock1_any g W R c w h hWw hR hg hv
  · rw [show mixk 2 W (wds R) = mix2 W (wds R) from rfl]
    exact endBlock2_any g W R c w h hWw hR hg hv

/-- A hash over the bytes xs. -/
def Ho (w : World) (g : Nat) (k : Int) (xs : List Int) : Prop := Hs w g k (wst k xs) (rst xs) (xs.length : Nat)

def slen : Value → Nat
  | .slice _ n _ => n
  | _ => 0
/-- The slice's block is not g. -/
def Off (ao : Option Addr) (n g : Nat) : Prop := 0 < n → ∀ a, ao = some a → a.block ≠ g
theorem Bs.off {w : World} {ao : Option Addr} {n c : Nat} {bs : List Int} (h : Bs w ao n c bs) {g : Nat} (hg : w.heap.size ≤ g) : Off ao n g := by
  intro hn a ha
  rcases h.at' with h0 | ⟨b, off, e, hc⟩
  · omega
  · rw [e] at ha
    obtain rfl := Option.some.inj ha
    have := World.block_lt_of_cell? w _ (hc 0 hn)
    simp at this ⊢
    omega

theorem Bs.gbo {g : Nat} {w w' : World} {ao : Option Addr} {n c : Nat} {bs : List Int} (h : Bs w ao n c bs) (hb : Gb g w w') (hg : Off ao n g) : Bs w' ao n c bs := by
  by_cases hn : 0 < n
  · exact h.gb hb (hg hn)
  · exact ⟨h.len, h.le, h.max, h.nil, h.byt, .inl (by omega)⟩

/-- 'copy(h.rest[f:], b)'. -/
theorem wpList_rCopy {ops : Array Oper} {rest : List Oper} {o : Oper} {a : Act} {w : World} {Q : Exit → Act → World → Prop} (hgd : o.guard = none) (d s : Operand)
    (ho : o.op = .call { callee := .builtin .copy, args := #[d, s], argTypes := #[22, 22] })
    (g f dLen dCap : Nat) (hd : a.eval d = .slice (some ⟨g, 9 + f, none⟩) dLen dCap) (hdl : dLen = 64 - f) (hf : f < 64)
    (ao : Option Addr) (n c : Nat) (bs : List Int) (hs : a.eval s = .slice ao n c) (hb : Bs w ao n c bs) (hn0 : 0 < n)
    (k : Int) (W R : List Int) (q : Int) (hH : Hs w g k W R q) (m : Nat) (hm : m = min n (64 - f))
    (h : ∀ w1, Hs w1 g k W (splice R f (bs.take m)) q → Gb g w w1 → wpList Tryd.prog ops Q rest (a.put o.dst (goInt m)) w1) : wpList Tryd.prog ops Q (o :: rest) a w := by
  obtain ⟨b, off, rfl, _⟩ := hb.at'.resolve_left (by omega)
  have hlen := hb.len
  have hl : ((bs.take m).map (Value.int .u8)).length = m := by simp; omega
  have hl2 : (bs.take m).length = m := by simp; omega
  refine wpList_copy_own hgd d s 22 22 ho 5 Tryd.underlying22 tb64.elem g (9 + f) dLen dCap ⟨b, off, none⟩ n c hd hs (hv k W R q) 52 hH.at' ((bs.take m).map (Value.int .u8)) (by rw [hl, hm, hdl]) ?_ ?_ (ints_oneCell _ _) ?_
  · intro j v hj
    refine hb.news j v ?_
    have hjm : j < m := by have := (List.getElem?_eq_some_iff.1 hj).1; rwa [hl] at this
    rw [← hj]
    simp [List.getElem?_take, hjm]
  · rw [hl, hv_size _ _ _ _ hH.wl hH.rl]; omega
  · rw [hl]
    have e : (hv k W R q).toList.take (9 + f) ++ ((bs.take m).map (Value.int .u8) ++ (hv k W R q).toList.drop (9 + f + m)) = hc k W (splice R f (bs.take m)) q := by
      rw [← hc_splice k W R q hH.wl hH.rl f (bs.take m) (by rw [hl2]; omega)]
      unfold splice
      rw [hl]
      simp [hv]
    rw [e]
    refine h _ ⟨setRow_heap w g _ _ _ _ hH.at', hH.wl, ?_⟩ ((Gb.refl g w).row _)
    rw [length_splice _ _ _ (by rw [hl2, hH.rl]; omega)]
    exact hH.rl

theorem Tryd.rArr : Tryd.prog.underlying 50 = some (.array (Tryd.prog.arrayLen 50) (Tryd.prog.elem 50)) := by kernel_rfl
theorem Tryd.rLen : Tryd.prog.arrayLen 50 = 64 := by kernel_rfl
theorem Tryd.rSize (w : World) : (sizeOf (Tryd.prog.elem 50)).run Tryd.prog w = .ok 1 w := by kernel_rfl
/-- 'h.rest[f:]' for the walk. -/
theorem run_rCut (g f : Nat) (hf : f < 64) (F : Int) (hF : F = f) (w : World) : (Instr.sliceAt 50 (.pointer (some ⟨g, 9, none⟩)) (some (.int .i64 F)) none none).run Tryd.prog w = .ok (.slice (some ⟨g, 9 + f, none⟩) (64 - f) (64 - f)) w := by
  subst hF
  rw [run_sliceAt_array_l w 50 ⟨g, 9, none⟩ Tryd.rArr .i64 (f : Int) (by omega) (by rw [Tryd.rLen]; omega), Tryd.rSize]
  simp [Result.andThen, slicedAt, Tryd.rLen, Addr.add_lit]
  omega

theorem cut_off {ao : Option Addr} {n c lo g : Nat} (h : Off ao n g) : Off (cutAt ao c lo) (n - lo) g := by
  intro hn a ha
  replace h := h (by omega)
  unfold cutAt at ha
  split at ha
  · exact h a ha
  · cases ao with
    | none => cases ha
    | some z =>
      simp at ha
      subst ha
      have := h z rfl
      unfold Addr.add
      split <;> simpa using this
/-- 's[lo:]' for the walk: a new value of which its bytes are known, in the same block. -/
theorem Bs.cut_lo {w : World} {ao : Option Addr} {n c g : Nat} {bs : List Int} (h : Bs w ao n c bs) (hg : Off ao n g) {lo : Nat} (h1 : lo ≤ n) (L : Int) (hL : L = lo) :
    ∃ ao' c', (∀ wx, (Instr.slice 22 (.slice ao n c) (some (.int .i64 L)) none none).run Tryd.prog wx = .ok (.slice ao' (n - lo) c') wx) ∧ Bs w ao' (n - lo) c' (bs.drop lo) ∧ Off ao' (n - lo) g :=
  ⟨_, _, run_cut_l ao n c lo h1 L hL, by have := h.cut h1 (Nat.le_refl n); rwa [List.take_of_length_le (by simp [h.len])] at this, cut_off hg⟩

set_option maxHeartbeats 2000000 in
theorem take_any (g : Nat) (k : Int) (xs : List Int) (bo : Option Addr) (bn bc : Nat) (bs : List Int) (w : World) (h : Ho w g k xs) (hk : k = 1 ∨ k = 2) (hxs : Byt xs) (hb : Bs w bo bn bc bs) (hoff : Off bo bn g) (hg : 1 ≤ g) (hv : Vars w) (hbd : xs.length + bn ≤ 1000000000000) :
    Calls Tryd.prog 43 #[.pointer (some ⟨g, 0, none⟩), .slice bo bn bc] w fun e w' => e = .returned (.tuple #[]) ∧ Ho w' g k (xs ++ bs) ∧ Gb g w w' := by
  have HK := hide hk
  have HX := hide hxs
  have HBb := hide hb.byt
  have HBl := hide hb.len
  have HV := hide hv
  have Hh := hide h
  have HB := hide hb
  have HO := hide hoff
  clear h hk hxs hb hoff hv
  go_enter Tryd.func43, Tryd.ntmps43
  go_wp2_with fail
  go_loopw [1] (fun v ws => ∃ (j : Nat) (ao : Option Addr) (c : Nat), j ≤ bn ∧ v = .slice ao (bn - j) c ∧ Bs ws ao (bn - j) c (bs.drop j) ∧ Off ao (bn - j) g ∧ Ho ws g k (xs ++ bs.take j) ∧ Gb g w ws) (fun v _ => slen v)
  case atStart => exact ⟨0, bo, bc, by omega, rfl, unhide HB, unhide HO, by rw [List.take_zero, List.append_nil]; exact unhide Hh, Gb.refl g w⟩
  case round =>
    clear HB HO Hh
    obtain ⟨j, ao, c, hj, rfl, hB, hO, hH, hG⟩ := hrel
    obtain ⟨ys, hys⟩ : ∃ ys, xs ++ bs.take j = ys := ⟨_, rfl⟩
    have hyl : ys.length = xs.length + j := by rw [← hys]; simp [unhide HBl]; omega
    rw [hys] at hH
    have hyb : Byt ys := by rw [← hys]; exact (unhide HX).app ((unhide HBb).take _)
    by_cases hlt : j < bn
    · obtain ⟨n, hn⟩ : ∃ n, bn - j = n := ⟨_, rfl⟩
      rw [hn] at hB hO ⊢
      have hH' : Hs wr g k (wst k ys) (rst ys) (ys.length : Nat) := hH
      obtain ⟨f, hf⟩ : ∃ f, ys.length % 64 = f := ⟨_, rfl⟩
      obtain ⟨m, hm⟩ : ∃ m, min n (64 - f) = m := ⟨_, rfl⟩
      obtain ⟨Y, hY⟩ : ∃ Y, ys.length = Y := ⟨_, rfl⟩
      rw [hY] at hH' hf hyl
      have cC := hH'.count
      have n0 : (0 : Int) < (n : Int) := by omega
      have eF : (Y : Int) % 64 = (f : Int) := by omega
      have f64 : f < 64 := by omega
      have f64' : (f : Int) < 64 := by omega
      have HH := hide hH'
      have HBs := hide hB
      have HOf := hide hO
      have hsl := run_rCut g f f64 (f : Int) rfl
      have hYb : Y ≤ 1000000000000 := by omega
      have HYl := hide hyl
      have HY := hide hY
      have HF := hide hf
      have HM := hide hm
      have HN := hide hn
      have hm0 : 0 < m := by omega
      have hmn : m ≤ n := by omega
      have hmf : f + m ≤ 64 := by omega
      have hnb : n ≤ 1000000000000 := by omega
      have hjm : j + m ≤ bn := by omega
      have hG' := hide hG
      have HYs := hide hys
      have HYb := hide hyb
      clear hH hH' hB hO hyl hY hf hm hn hG hys hyb hlt hj
      obtain ⟨T, hT⟩ : ∃ T, (bs.drop j).take m = T := ⟨_, rfl⟩
      have hTl : T.length = m := by rw [← hT, List.length_take, List.length_drop, unhide HBl]; omega
      have hTb : Byt T := by rw [← hT]; exact ((unhide HBb).drop _).take _
      have hyT : ys ++ T = xs ++ bs.take (j + m) := by rw [← unhide HYs, ← hT, List.append_assoc, ← List.take_add]
      have hyTl : (ys ++ T).length = Y + m := by rw [List.length_append, unhide HY, hTl]
      have HyT := hide hyT
      have HT := hide hT
      by_cases hfm : f + m = 64
      · have hfm' : ((f : Int) + (m : Int) == 64) = true := by simp; omega
        have r1 := hide (rst_full ys T (by rw [unhide HY, unhide HF, hTl]; exact hfm))
        have r2 := hide (wst_full k ys T (by rw [unhide HY, unhide HF, hTl]; exact hfm))
        rw [unhide HY, unhide HF] at r1
        rw [unhide HY] at r2
        have key := hide (show ∀ w2, Hs w2 g k (wst k ys) (splice (rst ys) f T) (Y : Nat) → Gb g wr w2 → Calls Tryd.prog 53 #[.pointer (some ⟨g, 0, none⟩)] (w2.setCell ⟨g, 73, none⟩ (.int .i64 ((Y : Int) + (m : Int)))) fun e w' => e = .returned (.tuple #[]) ∧ Ho w' g k (ys ++ T) ∧ Gb g w2 w' by
          intro w2 h2 g2
          rw [(unhide r1).1] at h2
          have gg : Gb g wr (w2.setCell ⟨g, 73, none⟩ (.int .i64 ((Y : Int) + (m : Int)))) := g2.set 73 _
          refine (endBlock_any g k _ _ _ _ (h2.setC ((Y : Int) + (m : Int))) (unhide HK) (wf_wds k ys _) (blk_byt ((unhide HYb).app hTb) _) hg ((unhide HV).gb hg ((unhide hG').trans gg))).mono ?_
          rintro e w' ⟨rfl, q1, q2⟩
          refine ⟨rfl, ?_, ((Gb.refl g w2).set 73 _).trans q2⟩
          unfold Ho
          rw [unhide r2, (unhide r1).2, hyTl, show ((Y + m : Nat) : Int) = (Y : Int) + (m : Int) by omega]
          exact q1)
        clear r1 r2 hyT hT hfm hTb
        go_wp2_with (first
          | (with_reducible show wpList Tryd.prog _ _ (Oper.mk (some 20) (Op.call _) _ _ _ none :: _) _ _; refine wpList_rCopy rfl (.tmp 18) (.tmp 19) rfl g f (64 - f) (64 - f) rfl rfl f64 ao n c _ rfl (unhide HBs) (by omega) k _ _ _ (unhide HH) m (unhide HM).symm ?_; intro w2 h2 g2; rw [unhide HT] at h2; obtain ⟨ao2, c2, hct, B2, O2⟩ := ((unhide HBs).gbo g2 (unhide HOf)).cut_lo (unhide HOf) hmn (m : Int) rfl; have cC2 := h2.count; have cF2 := h2.free 73; have ec := hide (unhide key w2 h2 g2); have G2 := hide g2; have HB2 := hide B2; have HO2 := hide O2; clear h2 g2 B2 O2))
        refine (unhide ec).mono ?_
        rintro e w4 ⟨rfl, h4, g4⟩
        have H4 := hide h4
        have G4 := hide ((unhide hG').trans ((unhide G2).trans g4))
        have HB4 := hide ((unhide HB2).gbo g4 (unhide HO2))
        clear h4 g4 ec key cC2 cF2
        go_wp2_with fail
        go_roundw
        case rel =>
          refine ⟨j + m, ao2, c2, hjm, by rw [show bn - (j + m) = n - m by have := unhide HN; omega], ?_, by rw [show bn - (j + m) = n - m by have := unhide HN; omega]; exact unhide HO2, ?_, unhide G4⟩
          · have := unhide HB4
            rw [show bn - (j + m) = n - m by have := unhide HN; omega]
            rwa [List.drop_drop] at this
          · rw [← unhide HyT]; exact unhide H4
        case measure => simp [slen]; omega
      · have hfm' : ((f : Int) + (m : Int) == 64) = false := by simp; omega
        have r1 := hide (rst_part ys T (by rw [unhide HY, unhide HF, hTl]; omega))
        have r2 := hide (wst_part k ys T (by rw [unhide HY, unhide HF, hTl]; omega))
        rw [unhide HY, unhide HF] at r1
        have key := hide (show ∀ w2, Hs w2 g k (wst k ys) (splice (rst ys) f T) (Y : Nat) → Ho (w2.setCell ⟨g, 73, none⟩ (.int .i64 ((Y : Int) + (m : Int)))) g k (ys ++ T) by
          intro w2 h2
          unfold Ho
          rw [unhide r2, ← unhide r1, hyTl, show ((Y + m : Nat) : Int) = (Y : Int) + (m : Int) by omega]
          exact h2.setC _)
        clear r1 r2 hyT hT hfm hTb
        go_wp2_with (first
          | (with_reducible show wpList Tryd.prog _ _ (Oper.mk (some 20) (Op.call _) _ _ _ none :: _) _ _; refine wpList_rCopy rfl (.tmp 18) (.tmp 19) rfl g f (64 - f) (64 - f) rfl rfl f64 ao n c _ rfl (unhide HBs) (by omega) k _ _ _ (unhide HH) m (unhide HM).symm ?_; intro w2 h2 g2; rw [unhide HT] at h2; obtain ⟨ao2, c2, hct, B2, O2⟩ := ((unhide HBs).gbo g2 (unhide HOf)).cut_lo (unhide HOf) hmn (m : Int) rfl; have cC2 := h2.count; have cF2 := h2.free 73; have ec := hide (unhide key w2 h2); have G2 := hide g2; have HB2 := hide B2; have HO2 := hide O2; clear h2 g2 B2 O2))
        go_roundw
        case rel =>
          refine ⟨j + m, ao2, c2, hjm, by rw [show bn - (j + m) = n - m by have := unhide HN; omega], ?_, by rw [show bn - (j + m) = n - m by have := unhide HN; omega]; exact unhide HO2, ?_, (unhide hG').trans ((unhide G2).set 73 _)⟩
          · have := (unhide HB2).gbo ((Gb.refl g w2).set 73 (.int .i64 ((Y : Int) + (m : Int)))) (unhide HO2)
            rw [show bn - (j + m) = n - m by have := unhide HN; omega]
            rwa [List.drop_drop] at this
          · rw [← unhide HyT]; exact unhide ec
        case measure => simp [slen]; omega
    · have hjb : j = bn := by omega
      subst hjb
      have hfin := hide (show Ho wr g k (xs ++ bs) by
        have := hH
        rw [← hys, List.take_of_length_le (by rw [unhide HBl]; omega)] at this
        exact this)
      have hG' := hide hG
      clear hH hB hO hG hys hyl hyb
      rw [Nat.sub_self]
      go_wp2_with fail
      refine bodyPost_end (results_none rfl _ _ _) rfl ?_
      exact ⟨rfl, unhide hfin, unhide hG'⟩

end Go.Proofs.YtfnnafhifpolmaaDoor
