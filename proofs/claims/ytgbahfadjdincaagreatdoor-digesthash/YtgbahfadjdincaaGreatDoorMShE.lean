/-
  What take of package sha does: so many bytes more. Conditions: a hash of one of the two kinds, that lies apart from the bytes; the table of constants holds what the program's text says; fewer than 10 to the 12 bytes.
  What pad of package sha does: the end of the bytes, and their last blocks. Conditions: a hash of one of the two kinds; the table of constants holds what the program's text says; fewer than 10 to the 12 bytes.
  What told of package sha returns: the words as bytes. Conditions: a hash of one of the two kinds.
  What the exported functions of package sha, and the methods of a hash, return. Conditions: a hash is one that New made, one of no kind, or none; the table of constants holds what the program's text says; fewer than 10 to the 12 bytes.
-/
import Derived.Test.YtgbahfadjdincaaGreatDoorMShD
namespace Go.Proofs.YtgbahfadjdincaaGreatDoor.Sha
open Go.RowKit
set_option linter.unusedVariables false
set_option linter.unusedSimpArgs false

theorem endBlock_any (g : Nat) (k : Int) (W R : List Int) (c : Int) (w : World) (h : Hs w g k W R c) (hk : k = 1 ∨ k = 2) (hWw : Wds W) (hR : Byt R) (hg : 1 ≤ g) (hv : Vars w) :
    Calls Tryz.prog 103 #[.pointer (some ⟨g, 0, none⟩)] w fun e w' => e = .returned (.tuple #[]) ∧ Hs w' g k (mixk k W (wds R)) (zs 64) c ∧ Gb g w w' := by
  rcases hk with rfl | rfl
  · rw [show mixk 1 W (wds R) = mix1 W (wds R) from rfl]
    exact endBlock1_any g W R c w h hWw hR hg hv
  · rw [show mixk 2 W (wds R) = mix2 W (wds R) from rfl]
    exact endBlock2_any g W R c w h hWw hR hg hv

/-- A hash over the bytes xs. -/
def Ho (w : World) (g : Nat) (k : Int) (xs : List Int) : Prop := Hs w g k (wst k xs) (rst xs) (xs.length : Nat)

def slen : Value → Nat
  | .slice _ n _ => n
  | _ => 0
/-- The slice's block is not g. -/
def Off (ao : Option Addr) (n g : Nat) : Prop := 0 < n → ∀ a, ao = some a → a.block ≠ g
theorem Bs.off {w : World} {ao : Option Addr} {n c : Nat} {bs : List Int} (h : Bs w ao n c bs) {g : Nat} (hg : w.heap.size ≤ g) : Off ao n g := by
  intro hn a ha
  rcases h.at' with h0 | ⟨b, off, e, hc⟩
  · omega
  · rw [e] at ha
    obtain rfl := Option.some.inj ha
    have := World.block_lt_of_cell? w _ (hc 0 hn)
    simp at this ⊢
    omega

theorem Bs.gbo {g : Nat} {w w' : World} {ao : Option Addr} {n c : Nat} {bs : List Int} (h : Bs w ao n c bs) (hb : Gb g w w') (hg : Off ao n g) : Bs w' ao n c bs := by
  by_cases hn : 0 < n
  · exact h.gb hb (hg hn)
  · exact ⟨h.len, h.le, h.max, h.nil, h.byt, .inl (by omega)⟩

/-- 'copy(h.rest[f:], b)'. -/
theorem wpList_rCopy {ops : Array Oper} {rest : List Oper} {o : Oper} {a : Act} {w : World} {Q : Exit → Act → World → Prop} (hgd : o.guard = none) (d s : Operand)
    (ho : o.op = .call { callee := .builtin .copy, args := #[d, s], argTypes := #[32, 32] })
    (g f dLen dCap : Nat) (hd : a.eval d = .slice (some ⟨g, 9 + f, none⟩) dLen dCap) (hdl : dLen = 64 - f) (hf : f < 64)
    (ao : Option Addr) (n c : Nat) (bs : List Int) (hs : a.eval s = .slice ao n c) (hb : Bs w ao n c bs) (hn0 : 0 < n)
    (k : Int) (W R : List Int) (q : Int) (hH : Hs w g k W R q) (m : Nat) (hm : m = min n (64 - f))
    (h : ∀ w1, Hs w1 g k W (splice R f (bs.take m)) q → Gb g w w1 → wpList Tryz.prog ops Q rest (a.put o.dst (goInt m)) w1) : wpList Tryz.prog ops Q (o :: rest) a w := by
  obtain ⟨b, off, rfl, _⟩ := hb.at'.resolve_left (by omega)
  have hlen := hb.len
  have hl : ((bs.take m).map (Value.int .u8)).length = m := by simp; omega
  have hl2 : (bs.take m).length = m := by simp; omega
  refine wpList_copy_own hgd d s 32 32 ho 5 Tryz.underlying32 tb64.elem g (9 + f) dLen dCap ⟨b, off, none⟩ n c hd hs (hv k W R q) 80 hH.at' ((bs.take m).map (Value.int .u8)) (by rw [hl, hm, hdl]) ?_ ?_ (ints_oneCell _ _) ?_
  · intro j v hj
    refine hb.news j v ?_
    have hjm : j < m := by have := (List.getElem?_eq_some_iff.1 hj).1; rwa [hl] at this
    rw [← hj]
    simp [List.getElem?_take, hjm]
  · rw [hl, hv_size _ _ _ _ hH.wl hH.rl]; omega
  · rw [hl]
    have e : (hv k W R q).toList.take (9 + f) ++ ((bs.take m).map (Value.int .u8) ++ (hv k W R q).toList.drop (9 + f + m)) = hc k W (splice R f (bs.take m)) q := by
      rw [← hc_splice k W R q hH.wl hH.rl f (bs.take m) (by rw [hl2]; omega)]
      unfold splice
      rw [hl]
      simp [hv]
    rw [e]
    refine h _ ⟨setRow_heap w g _ _ _ _ hH.at', hH.wl, ?_⟩ ((Gb.refl g w).row _)
    rw [length_splice _ _ _ (by rw [hl2, hH.rl]; omega)]
    exact hH.rl

theorem Tryz.rArr : Tryz.prog.underlying 78 = some (.array (Tryz.prog.arrayLen 78) (Tryz.prog.elem 78)) := by kernel_rfl
theorem Tryz.rLen : Tryz.prog.arrayLen 78 = 64 := by kernel_rfl
theorem Tryz.rSize (w : World) : (sizeOf (Tryz.prog.elem 78)).run Tryz.prog w = .ok 1 w := by kernel_rfl
/-- 'h.rest[f:]' for the walk. -/
theorem run_rCut (g f : Nat) (hf : f < 64) (F : Int) (hF : F = f) (w : World) : (Instr.sliceAt 78 (.pointer (some ⟨g, 9, none⟩)) (some (.int .i64 F)) none none).run Tryz.prog w = .ok (.slice (some ⟨g, 9 + f, none⟩) (64 - f) (64 - f)) w := by
  subst hF
  rw [run_sliceAt_array_l w 78 ⟨g, 9, none⟩ Tryz.rArr .i64 (f : Int) (by omega) (by rw [Tryz.rLen]; omega), Tryz.rSize]
  simp [Result.andThen, slicedAt, Tryz.rLen, Addr.add_lit]
  omega

theorem cut_off {ao : Option Addr} {n c lo g : Nat} (h : Off ao n g) : Off (cutAt ao c lo) (n - lo) g := by
  intro hn a ha
  replace h := h (by omega)
  unfold cutAt at ha
  split at ha
  · exact h a ha
  · cases ao with
    | none => cases ha
    | some z =>
      simp at ha
      subst ha
      have := h z rfl
      unfold Addr.add
      split <;> simpa using this
/-- 's[lo:]' for the walk: a new value of which its bytes are known, in the same block. -/
theorem Bs.cut_lo {w : World} {ao : Option Addr} {n c g : Nat} {bs : List Int} (h : Bs w ao n c bs) (hg : Off ao n g) {lo : Nat} (h1 : lo ≤ n) (L : Int) (hL : L = lo) :
    ∃ ao' c', (∀ wx, (Instr.slice 32 (.slice ao n c) (some (.int .i64 L)) none none).run Tryz.prog wx = .ok (.slice ao' (n - lo) c') wx) ∧ Bs w ao' (n - lo) c' (bs.drop lo) ∧ Off ao' (n - lo) g :=
  ⟨_, _, run_cut_l ao n c lo h1 L hL, by have := h.cut h1 (Nat.le_refl n); rwa [List.take_of_length_le (by simp [h.len])] at this, cut_off hg⟩

set_option maxHeartbeats 2000000 in
set_option maxRecDepth 20000 in
theorem take_any (g : Nat) (k : Int) (xs : List Int) (bo : Option Addr) (bn bc : Nat) (bs : List Int) (w : World) (h : Ho w g k xs) (hk : k = 1 ∨ k = 2) (hxs : Byt xs) (hb : Bs w bo bn bc bs) (hoff : Off bo bn g) (hg : 1 ≤ g) (hv : Vars w) (hbd : xs.length + bn ≤ 1000000000000) :
    Calls Tryz.prog 64 #[.pointer (some ⟨g, 0, none⟩), .slice bo bn bc] w fun e w' => e = .returned (.tuple #[]) ∧ Ho w' g k (xs ++ bs) ∧ Gb g w w' := by
  have HK := hide hk
  have HX := hide hxs
  have HBb := hide hb.byt
  have HBl := hide hb.len
  have HV := hide hv
  have Hh := hide h
  have HB := hide hb
  have HO := hide hoff
  clear h hk hxs hb hoff hv
  go_enter Tryz.func64, Tryz.ntmps64
  go_wp2_with fail
  go_loopw [1] (fun v ws => ∃ (j : Nat) (ao : Option Addr) (c : Nat), j ≤ bn ∧ v = .slice ao (bn - j) c ∧ Bs ws ao (bn - j) c (bs.drop j) ∧ Off ao (bn - j) g ∧ Ho ws g k (xs ++ bs.take j) ∧ Gb g w ws) (fun v _ => slen v)
  case atStart => exact ⟨0, bo, bc, by omega, rfl, unhide HB, unhide HO, by rw [List.take_zero, List.append_nil]; exact unhide Hh, Gb.refl g w⟩
  case round =>
    clear HB HO Hh
    obtain ⟨j, ao, c, hj, rfl, hB, hO, hH, hG⟩ := hrel
    obtain ⟨ys, hys⟩ : ∃ ys, xs ++ bs.take j = ys := ⟨_, rfl⟩
    have hyl : ys.length = xs.length + j := by rw [← hys]; simp [unhide HBl]; omega
    rw [hys] at hH
    have hyb : Byt ys := by rw [← hys]; exact (unhide HX).app ((unhide HBb).take _)
    by_cases hlt : j < bn
    · obtain ⟨n, hn⟩ : ∃ n, bn - j = n := ⟨_, rfl⟩
      rw [hn] at hB hO ⊢
      have hH' : Hs wr g k (wst k ys) (rst ys) (ys.length : Nat) := hH
      obtain ⟨f, hf⟩ : ∃ f, ys.length % 64 = f := ⟨_, rfl⟩
      obtain ⟨m, hm⟩ : ∃ m, min n (64 - f) = m := ⟨_, rfl⟩
      obtain ⟨Y, hY⟩ : ∃ Y, ys.length = Y := ⟨_, rfl⟩
      rw [hY] at hH' hf hyl
      have cC := hH'.count
      have n0 : (0 : Int) < (n : Int) := by omega
      have eF : (Y : Int) % 64 = (f : Int) := by omega
      have f64 : f < 64 := by omega
      have f64' : (f : Int) < 64 := by omega
      have HH := hide hH'
      have HBs := hide hB
      have HOf := hide hO
      have hsl := run_rCut g f f64 (f : Int) rfl
      have hYb : Y ≤ 1000000000000 := by omega
      have HYl := hide hyl
      have HY := hide hY
      have HF := hide hf
      have HM := hide hm
      have HN := hide hn
      have hm0 : 0 < m := by omega
      have hmn : m ≤ n := by omega
      have hmf : f + m ≤ 64 := by omega
      have hnb : n ≤ 1000000000000 := by omega
      have hjm : j + m ≤ bn := by omega
      have hG' := hide hG
      have HYs := hide hys
      have HYb := hide hyb
      clear hH hH' hB hO hyl hY hf hm hn hG hys hyb hlt hj
      obtain ⟨T, hT⟩ : ∃ T, (bs.drop j).take m = T := ⟨_, rfl⟩
      have hTl : T.length = m := by rw [← hT, List.length_take, List.length_drop, unhide HBl]; omega
      have hTb : Byt T := by rw [← hT]; exact ((unhide HBb).drop _).take _
      have hyT : ys ++ T = xs ++ bs.take (j + m) := by rw [← unhide HYs, ← hT, List.append_assoc, ← List.take_add]
      have hyTl : (ys ++ T).length = Y + m := by rw [List.length_append, unhide HY, hTl]
      have HyT := hide hyT
      have HT := hide hT
      by_cases hfm : f + m = 64
      · have hfm' : ((f : Int) + (m : Int) == 64) = true := by simp; omega
        have r1 := hide (rst_full ys T (by rw [unhide HY, unhide HF, hTl]; exact hfm))
        have r2 := hide (wst_full k ys T (by rw [unhide HY, unhide HF, hTl]; exact hfm))
        rw [unhide HY, unhide HF] at r1
        rw [unhide HY] at r2
        have key := hide (show ∀ w2, Hs w2 g k (wst k ys) (splice (rst ys) f T) (Y : Nat) → Gb g wr w2 → Calls Tryz.prog 103 #[.pointer (some ⟨g, 0, none⟩)] (w2.setCell ⟨g, 73, none⟩ (.int .i64 ((Y : Int) + (m : Int)))) fun e w' => e = .returned (.tuple #[]) ∧ Ho w' g k (ys ++ T) ∧ Gb g w2 w' by
          intro w2 h2 g2
          rw [(unhide r1).1] at h2
          have gg : Gb g wr (w2.setCell ⟨g, 73, none⟩ (.int .i64 ((Y : Int) + (m : Int)))) := g2.set 73 _
          refine (endBlock_any g k _ _ _ _ (h2.setC ((Y : Int) + (m : Int))) (unhide HK) (wf_wds k ys _) (blk_byt ((unhide HYb).app hTb) _) hg ((unhide HV).gb hg ((unhide hG').trans gg))).mono ?_
          rintro e w' ⟨rfl, q1, q2⟩
          refine ⟨rfl, ?_, ((Gb.refl g w2).set 73 _).trans q2⟩
          unfold Ho
          rw [unhide r2, (unhide r1).2, hyTl, show ((Y + m : Nat) : Int) = (Y : Int) + (m : Int) by omega]
          exact q1)
        clear r1 r2 hyT hT hfm hTb
        go_wp2_with (first
          | (with_reducible show wpList Tryz.prog _ _ (Oper.mk (some 20) (Op.call _) _ _ _ none :: _) _ _; refine wpList_rCopy rfl (.tmp 18) (.tmp 19) rfl g f (64 - f) (64 - f) rfl rfl f64 ao n c _ rfl (unhide HBs) (by omega) k _ _ _ (unhide HH) m (unhide HM).symm ?_; intro w2 h2 g2; rw [unhide HT] at h2; obtain ⟨ao2, c2, hct, B2, O2⟩ := ((unhide HBs).gbo g2 (unhide HOf)).cut_lo (unhide HOf) hmn (m : Int) rfl; have cC2 := h2.count; have cF2 := h2.free 73; have ec := hide (unhide key w2 h2 g2); have G2 := hide g2; have HB2 := hide B2; have HO2 := hide O2; clear h2 g2 B2 O2))
        refine (unhide ec).mono ?_
        rintro e w4 ⟨rfl, h4, g4⟩
        have H4 := hide h4
        have G4 := hide ((unhide hG').trans ((unhide G2).trans g4))
        have HB4 := hide ((unhide HB2).gbo g4 (unhide HO2))
        clear h4 g4 ec key cC2 cF2
        go_wp2_with fail
        go_roundw
        case rel =>
          refine ⟨j + m, ao2, c2, hjm, by rw [show bn - (j + m) = n - m by have := unhide HN; omega], ?_, by rw [show bn - (j + m) = n - m by have := unhide HN; omega]; exact unhide HO2, ?_, unhide G4⟩
          · have := unhide HB4
            rw [show bn - (j + m) = n - m by have := unhide HN; omega]
            rwa [List.drop_drop] at this
          · rw [← unhide HyT]; exact unhide H4
        case measure => simp [slen]; omega
      · have hfm' : ((f : Int) + (m : Int) == 64) = false := by simp; omega
        have r1 := hide (rst_part ys T (by rw [unhide HY, unhide HF, hTl]; omega))
        have r2 := hide (wst_part k ys T (by rw [unhide HY, unhide HF, hTl]; omega))
        rw [unhide HY, unhide HF] at r1
        have key := hide (show ∀ w2, Hs w2 g k (wst k ys) (splice (rst ys) f T) (Y : Nat) → Ho (w2.setCell ⟨g, 73, none⟩ (.int .i64 ((Y : Int) + (m : Int)))) g k (ys ++ T) by
          intro w2 h2
          unfold Ho
          rw [unhide r2, ← unhide r1, hyTl, show ((Y + m : Nat) : Int) = (Y : Int) + (m : Int) by omega]
          exact h2.setC _)
        clear r1 r2 hyT hT hfm hTb
        go_wp2_with (first
          | (with_reducible show wpList Tryz.prog _ _ (Oper.mk (some 20) (Op.call _) _ _ _ none :: _) _ _; refine wpList_rCopy rfl (.tmp 18) (.tmp 19) rfl g f (64 - f) (64 - f) rfl rfl f64 ao n c _ rfl (unhide HBs) (by omega) k _ _ _ (unhide HH) m (unhide HM).symm ?_; intro w2 h2 g2; rw [unhide HT] at h2; obtain ⟨ao2, c2, hct, B2, O2⟩ := ((unhide HBs).gbo g2 (unhide HOf)).cut_lo (unhide HOf) hmn (m : Int) rfl; have cC2 := h2.count; have cF2 := h2.free 73; have ec := hide (unhide key w2 h2); have G2 := hide g2; have HB2 := hide B2; have HO2 := hide O2; clear h2 g2 B2 O2))
        go_roundw
        case rel =>
          refine ⟨j + m, ao2, c2, hjm, by rw [show bn - (j + m) = n - m by have := unhide HN; omega], ?_, by rw [show bn - (j + m) = n - m by have := unhide HN; omega]; exact unhide HO2, ?_, (unhide hG').trans ((unhide G2).set 73 _)⟩
          · have := (unhide HB2).gbo ((Gb.refl g w2).set 73 (.int .i64 ((Y : Int) + (m : Int)))) (unhide HO2)
            rw [show bn - (j + m) = n - m by have := unhide HN; omega]
            rwa [List.drop_drop] at this
          · rw [← unhide HyT]; exact unhide ec
        case measure => simp [slen]; omega
    · have hjb : j = bn := by omega
      subst hjb
      have hfin := hide (show Ho wr g k (xs ++ bs) by
        have := hH
        rw [← hys, List.take_of_length_le (by rw [unhide HBl]; omega)] at this
        exact this)
      have hG' := hide hG
      clear hH hB hO hG hys hyl hyb
      rw [Nat.sub_self]
      go_wp2_with fail
      refine bodyPost_end (results_none rfl _ _ _) rfl ?_
      exact ⟨rfl, unhide hfin, unhide hG'⟩

end Go.Proofs.YtgbahfadjdincaaGreatDoor.Sha

namespace Go.Proofs.YtgbahfadjdincaaGreatDoor.Sha
open Go.RowKit
set_option linter.unusedVariables false
set_option linter.unusedSimpArgs false

/-- What is put ahead of the length. -/
theorem set_bp (A : List Int) (N : Int) (j : Nat) (hA : A.length = 56) (h : j < 8) : (A ++ bp N j).set (63 - j) (N / 256 ^ j % 256) = A ++ bp N (j + 1) := by
  rw [List.set_append_right _ _ (by omega), hA, show 63 - j - 56 = 7 - j by omega, bp_step N j h]

set_option maxHeartbeats 2000000 in
set_option maxRecDepth 20000 in
theorem pad_any (g : Nat) (k : Int) (xs : List Int) (w : World) (h : Ho w g k xs) (hk : k = 1 ∨ k = 2) (hxs : Byt xs) (hg : 1 ≤ g) (hv : Vars w) (hbd : xs.length ≤ 1000000000000) :
    Calls Tryz.prog 65 #[.pointer (some ⟨g, 0, none⟩)] w fun e w' => e = .returned (.tuple #[]) ∧ Hs w' g k (wf k (pd xs) ((pd xs).length / 64)) (zs 64) (xs.length : Nat) ∧ Gb g w w' := by
  have h' : Hs w g k (wst k xs) (rst xs) (xs.length : Nat) := h
  obtain ⟨Y, hY⟩ : ∃ Y, xs.length = Y := ⟨_, rfl⟩
  obtain ⟨f, hf⟩ : ∃ f, Y % 64 = f := ⟨_, rfl⟩
  have f64 : f < 64 := by omega
  have hm := rst_mark xs
  have hl := tls_len xs
  have hwp := hide (wf_pd k xs)
  rw [hY] at h' hm hbd hl
  rw [hf] at hm hl
  have cC := h'.count
  have cR := h'.rest (i := f) f64
  have fR := h'.free (9 + f)
  have h2 := h'.setR (i := f) f64 128
  rw [hm] at h2
  have eF : (Y : Int) % 64 = (f : Int) := by omega
  have i1 : 0 ≤ (f : Int) ∧ (f : Int) < 64 := by omega
  have HK := hide hk
  have HX := hide hxs
  have HV := hide hv
  have HF := hide hf
  have HYl := hide hY
  have HL := hide hl
  have N1 := hide (show (8 * (xs.length : Int)) = (Y : Int) * 8 by rw [hY]; omega)
  generalize ix (rst xs) f = X at *
  by_cases hff : f < 56
  · have hfl : ¬ (56 : Int) ≤ (f : Int) := by omega
    obtain ⟨p1, p2⟩ := pd_one xs (by rw [hY, hf]; exact hff)
    rw [hY, hf] at p1
    rw [hY] at p2
    obtain ⟨A, hA⟩ : ∃ A, tls xs ++ (128 :: zs (55 - f)) = A := ⟨_, rfl⟩
    have hAl : A.length = 56 := by rw [← hA]; simp [hl, zs_len]; omega
    have h3 : Hs (w.setCell ⟨g, 9 + f, none⟩ (.int .u8 128)) g k (wst k xs) (A ++ zs 8) (Y : Nat) := by
      rw [← hA, List.append_assoc, List.cons_append, zs_app, show 55 - f + 8 = 63 - f by omega]; exact h2
    have HA := hide hAl
    have hAb := hide (show Byt A by rw [← hA]; exact (hxs.drop _).app (Byt.cons (by decide) (by decide) (zs_byt _)))
    have fin := hide (show mixk k (wst k xs) (wds (A ++ be8 ((Y : Int) * 8))) = wf k (pd xs) ((pd xs).length / 64) by
      rw [p2, ← hA, ← unhide N1, hY, p1]
      simp only [wf]
      rw [← hY, unhide hwp])
    have WW := hide (show Wds (wst k xs) from wf_wds k xs _)
    have H3 := hide h3
    have G3 := hide (show Gb g w (w.setCell ⟨g, 9 + f, none⟩ (.int .u8 128)) from (Gb.refl g w).set _ _)
    have cC3 := h3.count
    clear h2 h3 hm hA p1 p2 hwp h h' hk hxs hv hf hY hl hAl hff
    generalize wst k xs = W1 at *
    go_enter Tryz.func65, Tryz.ntmps65
    go_wp2_with fail
    go_loopw [4, 3] (fun i v ws => ∃ (j : Nat) (b : Int), j ≤ 8 ∧ i = .int .i64 (63 - (j : Int)) ∧ v = .int .u64 b ∧ b = (Y : Int) * 8 / 256 ^ j ∧ Hs ws g k W1 (A ++ bp ((Y : Int) * 8) j) (Y : Nat) ∧ Gb g w ws) (fun i _ _ => (intOf i).toNat - 55)
    case atStart => exact ⟨0, (Y : Int) * 8, by omega, rfl, rfl, by simp, by rw [bp_zero]; exact unhide H3, unhide G3⟩
    case round =>
      clear H3 G3
      obtain ⟨j, b, hj, rfl, rfl, hb, hH, hG⟩ := hrel
      have hlen : (A ++ bp ((Y : Int) * 8) j).length = 64 := by rw [List.length_append, unhide HA, bp_len _ _ hj]
      have b0 : 0 ≤ b := by rw [hb]; exact Int.ediv_nonneg (by omega) (Int.pow_nonneg (by decide))
      have b1 : b ≤ 8000000000000 := by rw [hb]; exact Int.le_trans (Int.ediv_le_self _ (by omega)) (by omega)
      by_cases hlt : j < 8
      · obtain ⟨p, hp⟩ : ∃ p : Nat, 63 - j = p := ⟨_, rfl⟩
        have ep : 63 - (j : Int) = (p : Int) := by omega
        have p64 : p < 64 := by omega
        have p56 : (56 : Int) ≤ (p : Int) := by omega
        have ip : 0 ≤ (p : Int) ∧ (p : Int) < 64 := by omega
        have c1 := hH.rest (i := p) p64
        have f1 := hH.free (9 + p)
        have hst := hide (set_bp A ((Y : Int) * 8) j (unhide HA) hlt)
        rw [← hb, hp] at hst
        have hnx := hide (pow_next ((Y : Int) * 8) j)
        rw [← hb] at hnx
        have HH := hide hH
        have HG := hide hG
        generalize ix (A ++ bp ((Y : Int) * 8) j) p = X1 at *
        rw [ep]
        clear hH hG hb hlen hp
        go_wp2_with fail
        go_roundw
        case rel =>
          refine ⟨j + 1, b / 256, by omega, by congr 1; omega, rfl, unhide hnx, ?_, (unhide HG).set _ _⟩
          rw [← unhide hst]
          exact (unhide HH).setR p64 _
        case measure => simp [intOf]; omega
      · have hj8 : j = 8 := by omega
        subst hj8
        rw [bp_all] at hH
        have ec2 := hide (endBlock_any g k _ _ _ wr hH (unhide HK) (unhide WW) ((unhide hAb).app (be8_byt _)) hg ((unhide HV).gb hg hG))
        rw [unhide fin] at ec2
        have HG := hide hG
        clear hH hG hb hlen
        go_wp2_with fail
        refine (unhide ec2).mono ?_
        rintro e w5 ⟨rfl, h5, g5⟩
        go_wp2_with fail
        refine bodyPost_end (results_none rfl _ _ _) rfl ?_
        exact ⟨rfl, by rw [unhide HYl]; exact h5, (unhide HG).trans g5⟩
  · have hfl : (56 : Int) ≤ (f : Int) := by omega
    obtain ⟨p1, p3, p2⟩ := pd_two xs (by rw [hY, hf]; omega)
    rw [hY, hf] at p1
    rw [hY] at p2 p3
    have hRb : Byt (tls xs ++ (128 :: zs (63 - f))) := (hxs.drop _).app (Byt.cons (by decide) (by decide) (zs_byt _))
    have ec := hide (endBlock_any g k _ _ _ _ h2 hk (wf_wds k xs _) hRb hg (hv.gb hg ((Gb.refl g w).set (9 + f) (.int .u8 128))))
    have G2 := hide (show Gb g w (w.setCell ⟨g, 9 + f, none⟩ (.int .u8 128)) from (Gb.refl g w).set _ _)
    obtain ⟨A, hA⟩ : ∃ A, zs 56 = A := ⟨_, rfl⟩
    have HA := hide (show A.length = 56 by rw [← hA]; exact zs_len 56)
    have hAb := hide (show Byt A by rw [← hA]; exact zs_byt 56)
    have hA8 := hide (show zs 64 = A ++ zs 8 by rw [← hA, zs_app])
    obtain ⟨W1, hW1⟩ : ∃ W1, mixk k (wst k xs) (wds (tls xs ++ (128 :: zs (63 - f)))) = W1 := ⟨_, rfl⟩
    have hW1' : wf k (pd xs) (Y / 64 + 1) = W1 := by
      rw [← hW1, p1]
      simp only [wf]
      rw [← hY, unhide hwp]
    have fin := hide (show mixk k W1 (wds (A ++ be8 ((Y : Int) * 8))) = wf k (pd xs) ((pd xs).length / 64) by
      rw [p2, ← hA, ← unhide N1, hY, p3, ← hW1']
      rfl)
    have WW := hide (show Wds W1 by rw [← hW1']; exact wf_wds k _ _)
    unfold wst at ec
    rw [show wf k xs (xs.length / 64) = wst k xs from rfl, hW1] at ec
    clear h2 hm hA p1 p2 p3 hwp h h' hk hxs hv hf hY hl hff hRb hW1 hW1'
    go_enter Tryz.func65, Tryz.ntmps65
    go_wp2_with fail
    refine (unhide ec).mono ?_
    rintro e w3 ⟨rfl, h3, g3⟩
    rw [unhide hA8] at h3
    have H3 := hide h3
    have G3 := hide ((unhide G2).trans g3)
    have cC3 := h3.count
    clear h3 g3 ec G2
    go_wp2_with fail
    go_loopw [4, 3] (fun i v ws => ∃ (j : Nat) (b : Int), j ≤ 8 ∧ i = .int .i64 (63 - (j : Int)) ∧ v = .int .u64 b ∧ b = (Y : Int) * 8 / 256 ^ j ∧ Hs ws g k W1 (A ++ bp ((Y : Int) * 8) j) (Y : Nat) ∧ Gb g w ws) (fun i _ _ => (intOf i).toNat - 55)
    case atStart => exact ⟨0, (Y : Int) * 8, by omega, rfl, rfl, by simp, by rw [bp_zero]; exact unhide H3, unhide G3⟩
    case round =>
      clear H3 G3
      obtain ⟨j, b, hj, rfl, rfl, hb, hH, hG⟩ := hrel
      have hlen : (A ++ bp ((Y : Int) * 8) j).length = 64 := by rw [List.length_append, unhide HA, bp_len _ _ hj]
      have b0 : 0 ≤ b := by rw [hb]; exact Int.ediv_nonneg (by omega) (Int.pow_nonneg (by decide))
      have b1 : b ≤ 8000000000000 := by rw [hb]; exact Int.le_trans (Int.ediv_le_self _ (by omega)) (by omega)
      by_cases hlt : j < 8
      · obtain ⟨p, hp⟩ : ∃ p : Nat, 63 - j = p := ⟨_, rfl⟩
        have ep : 63 - (j : Int) = (p : Int) := by omega
        have p64 : p < 64 := by omega
        have p56 : (56 : Int) ≤ (p : Int) := by omega
        have ip : 0 ≤ (p : Int) ∧ (p : Int) < 64 := by omega
        have c1 := hH.rest (i := p) p64
        have f1 := hH.free (9 + p)
        have hst := hide (set_bp A ((Y : Int) * 8) j (unhide HA) hlt)
        rw [← hb, hp] at hst
        have hnx := hide (pow_next ((Y : Int) * 8) j)
        rw [← hb] at hnx
        have HH := hide hH
        have HG := hide hG
        generalize ix (A ++ bp ((Y : Int) * 8) j) p = X1 at *
        rw [ep]
        clear hH hG hb hlen hp
        go_wp2_with fail
        go_roundw
        case rel =>
          refine ⟨j + 1, b / 256, by omega, by congr 1; omega, rfl, unhide hnx, ?_, (unhide HG).set _ _⟩
          rw [← unhide hst]
          exact (unhide HH).setR p64 _
        case measure => simp [intOf]; omega
      · have hj8 : j = 8 := by omega
        subst hj8
        rw [bp_all] at hH
        have ec2 := hide (endBlock_any g k _ _ _ wr hH (unhide HK) (unhide WW) ((unhide hAb).app (be8_byt _)) hg ((unhide HV).gb hg hG))
        rw [unhide fin] at ec2
        have HG := hide hG
        clear hH hG hb hlen
        go_wp2_with fail
        refine (unhide ec2).mono ?_
        rintro e w5 ⟨rfl, h5, g5⟩
        go_wp2_with fail
        refine bodyPost_end (results_none rfl _ _ _) rfl ?_
        exact ⟨rfl, by rw [unhide HYl]; exact h5, (unhide HG).trans g5⟩

end Go.Proofs.YtgbahfadjdincaaGreatDoor.Sha

namespace Go.Proofs.YtgbahfadjdincaaGreatDoor.Sha
open Go.RowKit
set_option linter.unusedVariables false
set_option linter.unusedSimpArgs false

theorem told_zero (W : List Int) : told 0 W = [] := rfl
theorem told_step (W : List Int) (j : Nat) (h : j < W.length) : told (j + 1) W = told j W ++ sm4 (ix W j) := by
  unfold told ix
  rw [List.take_add_one, List.flatMap_append, List.getElem?_eq_getElem h]
  simp
theorem told_len (W : List Int) : ∀ j, j ≤ W.length → (told j W).length = 4 * j
  | 0, _ => rfl
  | j + 1, h => by rw [told_step W j (by omega), List.length_append, told_len W j (by omega)]; simp [sm4]; omega
theorem sm4_byt {x : Int} (h : Wd x) : Byt (sm4 x) := by
  obtain ⟨h0, h1⟩ := h
  intro y hy
  simp only [sm4, List.mem_cons, List.not_mem_nil, or_false] at hy
  omega
/-- The four bytes that are laid for 'append'. -/
theorem Bs.four (w : World) (x : Int) (h : Wd x) : Bs (w.alloc (.cells #[.int .u8 (x / 16777216), .int .u8 (x / 65536 % 256), .int .u8 (x / 256 % 256), .int .u8 (x % 256)] 5)) (some ⟨w.heap.size, 0, none⟩) 4 4 (sm4 x) :=
  Bs.lit w (sm4 x) (sm4_byt h) (by simp [sm4])

def OutB (w : World) (l : List Int) (e : Ending) (w' : World) : Prop :=
  ∃ ao n c, e = .returned (.slice ao n c) ∧ Mine w.heap.size w' ao n c l ∧ Below w.heap.size w w'

set_option maxHeartbeats 2000000 in
set_option maxRecDepth 20000 in
theorem told_any (g : Nat) (k : Int) (W R : List Int) (q : Int) (w : World) (h : Hs w g k W R q) (hk : k = 1 ∨ k = 2) (hW : Wds W) :
    Calls Tryz.prog 66 #[.pointer (some ⟨g, 0, none⟩)] w fun e w' => OutB w (told (nk k) W) e w' := by
  have kc := h.kind
  have H := hide h
  have HW := hide hW
  have hlt := h.lt
  clear h hW
  rcases hk with rfl | rfl
  · go_enter Tryz.func66, Tryz.ntmps66
    go_wp2_with (first
      | (at_make; refine wpList_mk rfl _ _ rfl _ _ _ 20 rfl rfl (by omega) (by omega) ?_; intro w1 m1 b1 z1))
    go_loopw [21, 4] (fun i v ws => ∃ (j : Nat) (ao : Option Addr) (c : Nat), j ≤ 5 ∧ i = .int .i64 j ∧ v = .slice ao (4 * j) c ∧ Mine w.heap.size ws ao (4 * j) c (told j W) ∧ Below w.heap.size w ws) (fun i _ _ => 5 - (intOf i).toNat)
    case atStart => exact ⟨0, _, _, by omega, rfl, rfl, m1, b1⟩
    case round =>
      clear m1 b1 z1
      obtain ⟨j, ao, c, hj, rfl, rfl, hM, hB⟩ := hrel
      by_cases hlt2 : j < 5
      · have hH := (unhide H).keep (hB.block g hlt)
        have cw := hH.word (i := j) (by omega)
        have hts := hide (told_step W j (by rw [hH.wl]; omega))
        have hsm := hide (show ix W j = ix W j from rfl)
        have hWd := (unhide HW) j
        obtain ⟨x0, x1⟩ := hWd
        have hxw : Wd (ix W j) := ⟨x0, x1⟩
        have HXW := hide hxw
        generalize ix W j = X at *
        have hBs := hB.size
        have ij : 0 ≤ (j : Int) ∧ (j : Int) < 5 := by omega
        have HM := hide hM
        have HBl := hide hB
        clear hM hB hsm hxw hH
        go_wp2_with (first
          | (at_builtin; refine wpList_app rfl (.tmp 25) (.tmp 37) rfl w.heap.size ao (4 * j) c _ rfl ((unhide HM).later (below_alloc wr _)) _ 4 4 _ rfl (Bs.four wr X (unhide HXW)) (by omega) (by simp <;> omega) ?_; intro ao2 c2 w2 m2 b2; have M2 := hide m2; have B2 := hide (((unhide HBl).trans ((below_alloc wr _).mono hBs)).trans b2); clear m2 b2))
        go_roundw
        case rel =>
          refine ⟨j + 1, ao2, c2, by omega, by go_num, rfl, ?_, unhide B2⟩
          have := unhide M2
          rw [← unhide hts] at this
          exact this
        case measure => simp [intOf]; omega
      · have hj5 : j = 5 := by omega
        subst hj5
        have HM := hide hM
        have HBl := hide hB
        clear hM hB
        go_wp2_with fail
        go_ret
        exact ⟨ao, _, c, rfl, unhide HM, unhide HBl⟩
  · go_enter Tryz.func66, Tryz.ntmps66
    go_wp2_with (first
      | (at_make; refine wpList_mk rfl _ _ rfl _ _ _ 32 rfl rfl (by omega) (by omega) ?_; intro w1 m1 b1 z1))
    go_loopw [21, 4] (fun i v ws => ∃ (j : Nat) (ao : Option Addr) (c : Nat), j ≤ 8 ∧ i = .int .i64 j ∧ v = .slice ao (4 * j) c ∧ Mine w.heap.size ws ao (4 * j) c (told j W) ∧ Below w.heap.size w ws) (fun i _ _ => 8 - (intOf i).toNat)
    case atStart => exact ⟨0, _, _, by omega, rfl, rfl, m1, b1⟩
    case round =>
      clear m1 b1 z1
      obtain ⟨j, ao, c, hj, rfl, rfl, hM, hB⟩ := hrel
      by_cases hlt2 : j < 8
      · have hH := (unhide H).keep (hB.block g hlt)
        have cw := hH.word (i := j) (by omega)
        have hts := hide (told_step W j (by rw [hH.wl]; omega))
        have hsm := hide (show ix W j = ix W j from rfl)
        have hWd := (unhide HW) j
        obtain ⟨x0, x1⟩ := hWd
        have hxw : Wd (ix W j) := ⟨x0, x1⟩
        have HXW := hide hxw
        generalize ix W j = X at *
        have hBs := hB.size
        have ij : 0 ≤ (j : Int) ∧ (j : Int) < 8 := by omega
        have HM := hide hM
        have HBl := hide hB
        clear hM hB hsm hxw hH
        go_wp2_with (first
          | (at_builtin; refine wpList_app rfl (.tmp 25) (.tmp 37) rfl w.heap.size ao (4 * j) c _ rfl ((unhide HM).later (below_alloc wr _)) _ 4 4 _ rfl (Bs.four wr X (unhide HXW)) (by omega) (by simp <;> omega) ?_; intro ao2 c2 w2 m2 b2; have M2 := hide m2; have B2 := hide (((unhide HBl).trans ((below_alloc wr _).mono hBs)).trans b2); clear m2 b2))
        go_roundw
        case rel =>
          refine ⟨j + 1, ao2, c2, by omega, by go_num, rfl, ?_, unhide B2⟩
          have := unhide M2
          rw [← unhide hts] at this
          exact this
        case measure => simp [intOf]; omega
      · have hj5 : j = 8 := by omega
        subst hj5
        have HM := hide hM
        have HBl := hide hB
        clear hM hB
        go_wp2_with fail
        go_ret
        exact ⟨ao, _, c, rfl, unhide HM, unhide HBl⟩

end Go.Proofs.YtgbahfadjdincaaGreatDoor.Sha

namespace Go.Proofs.YtgbahfadjdincaaGreatDoor.Sha
open Go.RowKit
set_option linter.unusedVariables false
set_option linter.unusedSimpArgs false

theorem wpList_hBuild {ops : Array Oper} {rest : List Oper} {o : Oper} {a : Act} {w : World} {Q : Exit → Act → World → Prop} (hgd : o.guard = none) (x y : Operand) (ho : o.op = .build 80 #[(0, x), (1, y)])
    (k : Int) (W : List Int) (hW : W.length = 8) (hx : a.eval x = .int .i64 k) (hy : a.eval y = .agg (vk .u32 W))
    (h : wpList Tryz.prog ops Q rest (a.put o.dst (.agg (hv k W (zs 64) 0))) w) : wpList Tryz.prog ops Q (o :: rest) a w := by
  have hb : Tryz.prog.built 80 (#[(0, x), (1, y)].map fun (i, x) => (i, a.eval x)).toList = some (hv k W (zs 64) 0) := by
    simp only [List.map_toArray, List.map_cons, List.map_nil, hx, hy]
    exact hBuilt k W hW
  refine wpList_build hgd _ _ ho (by rw [hb]; rfl) ?_
  rw [hb]
  exact h
theorem ho_nil {w : World} {g : Nat} {k : Int} (h : Hs w g k (fwk k) (zs 64) 0) : Ho w g k [] := h
theorem ho_of {w : World} {g : Nat} {k : Int} {xs : List Int} (h : Hs w g k (wst k xs) (rst xs) (xs.length : Nat)) : Ho w g k xs := h
theorem Ho.later {w w' : World} {g : Nat} {k : Int} {xs : List Int} (h : Ho w g k xs) (hb : Below w.heap.size w w') : Ho w' g k xs := Hs.later h hb
theorem Ho.lt {w : World} {g : Nat} {k : Int} {xs : List Int} (h : Ho w g k xs) : g < w.heap.size := Hs.lt h
theorem Ho.keep {w w' : World} {g : Nat} {k : Int} {xs : List Int} (h : Ho w g k xs) (hb : w'.heap[g]? = w.heap[g]?) : Ho w' g k xs := Hs.keep h hb

set_option maxHeartbeats 2000000 in
set_option maxRecDepth 20000 in
theorem sumOf_any (k : Int) (bo : Option Addr) (bn bc : Nat) (bs : List Int) (w : World) (hk : k = 1 ∨ k = 2) (hb : Bs w bo bn bc bs) (hv : Vars w) (hbd : bn ≤ 1000000000000) :
    Calls Tryz.prog 27 #[.int .i64 k, .slice bo bn bc] w fun e w' => OutB w (sumk k bs) e w' := by
  have HK := hide hk
  have HB := hide hb
  have HV := hide hv
  have fc := hide (firstWords_any k w hk)
  clear hk hb hv
  go_enter Tryz.func27, Tryz.ntmps27
  go_wp2_with fail
  refine (unhide fc).mono ?_
  rintro e w1 ⟨rfl, b1⟩
  have B1 := hide b1
  have hs1 := b1.size
  have hsz := (unhide HV).size
  clear b1 fc
  go_wp2_with (first
    | (with_reducible show wpList Tryz.prog _ _ (Oper.mk _ (Op.build 80 _) _ _ _ none :: _) _ _; refine wpList_hBuild rfl (.tmp 6) (.tmp 8) rfl k (fwk k) (fwk_len k) rfl rfl ?_)
    | (with_reducible show wpList Tryz.prog _ _ (Oper.mk _ (Op.alloc 80) _ _ _ none :: _) _ _; refine wpList_hAlloc rfl rfl ?_; intro w2 h2 b2 s2; have S2 := hide s2; clear s2)
    | (with_reducible show wpList Tryz.prog _ _ (Oper.mk _ (Op.store 80 _ _) _ _ _ none :: _) _ _; refine wpList_hStore rfl (.tmp 5) (.tmp 9) rfl w1.heap.size k _ (fwk k) (zs 64) _ _ 0 _ rfl rfl h2 (fwk_len k) (zs_len 64) ?_; intro w3 h3 g3 s3; have H3 := hide (ho_nil h3); have B3 := hide (((unhide B1).trans (b2.mono hs1)).trans ((g3.below (by have := unhide S2; omega)).mono hs1)); clear h2 b2 h3 g3 s3))
  have hlt3 := (unhide H3).lt
  have tk := hide (take_any w1.heap.size k [] bo bn bc bs w3 (unhide H3) (unhide HK) Byt.nil ((unhide HB).later (unhide B3)) ((unhide HB).off hs1) (by omega) ((unhide HV).later hsz (unhide B3)) (by simpa using hbd))
  clear S2 H3
  go_wp2_with fail
  refine (unhide tk).mono ?_
  rintro e w4 ⟨rfl, h4, g4⟩
  rw [List.nil_append] at h4
  have hlt4 := h4.lt
  have hw3 : w1.heap.size < w3.heap.size := hlt3
  have B4 := hide ((unhide B3).trans ((g4.below (by omega)).mono hs1))
  have pc := hide (pad_any w1.heap.size k bs w4 h4 (unhide HK) (unhide HB).byt (by omega) ((unhide HV).later hsz (unhide B4)) (by rw [(unhide HB).len]; exact hbd))
  clear h4 g4 tk
  go_wp2_with fail
  refine (unhide pc).mono ?_
  rintro e w5 ⟨rfl, h5, g5⟩
  have B5 := hide ((unhide B4).trans ((g5.below (by omega)).mono hs1))
  have tc := hide (told_any w1.heap.size k _ _ _ w5 h5 (unhide HK) (wf_wds k _ _))
  have hs5 := (unhide B5).size
  clear h5 g5 pc
  go_wp2_with fail
  refine (unhide tc).mono ?_
  rintro e w6 ⟨ao, n, c, rfl, m6, b6⟩
  have M6 := hide (m6.mono hs5)
  have B6 := hide ((unhide B5).trans (b6.mono hs5))
  clear m6 b6 tc
  go_wp2_with fail
  go_ret
  exact ⟨ao, n, c, rfl, unhide M6, unhide B6⟩

set_option maxHeartbeats 400000 in
set_option maxRecDepth 20000 in
theorem sum256_any (bo : Option Addr) (bn bc : Nat) (bs : List Int) (w : World) (hb : Bs w bo bn bc bs) (hv : Vars w) (hbd : bn ≤ 1000000000000) :
    Calls Tryz.prog 14 #[.slice bo bn bc] w fun e w' => OutB w (sumk 2 bs) e w' := by
  have c := hide (sumOf_any 2 bo bn bc bs w (.inr rfl) hb hv hbd)
  clear hb hv hbd
  go_enter Tryz.func14, Tryz.ntmps14
  go_wp2_with fail
  refine (unhide c).mono ?_
  rintro e w6 ⟨ao, n, c, rfl, m6, b6⟩
  go_wp2_with fail
  go_ret
  exact ⟨ao, n, c, rfl, m6, b6⟩

end Go.Proofs.YtgbahfadjdincaaGreatDoor.Sha
