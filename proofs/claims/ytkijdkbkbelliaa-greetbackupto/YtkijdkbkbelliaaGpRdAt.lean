/-
  What attrs of the reader of logins' packets does: the state behind, and the attributes that were read. Conditions: the slice can be read.
-/
import Derived.Test.YtkijdkbkbelliaaGpRd2
import Derived.Test.YtkijdkbkbelliaaGpAt
import Derived.Deep.LoopGhost
namespace Go.Proofs.Ytkijdkbkbelliaa
open Go.RowKit
set_option linter.unusedVariables false
set_option linter.unusedSimpArgs false

/-- One attribute is read: the state behind. -/
def a1S (s : FS) (n : Nat) : FS := txS (txS (waS s (decide (n < 64))))
def a1A (s : FS) (n : Nat) : At := ⟨txA (waS s (decide (n < 64))), txA (txS (waS s (decide (n < 64))))⟩
/-- The attributes of bytes, one behind the other. -/
def atl : Nat → FS → List At → List At × FS
  | 0, s, l => (l, s)
  | k + 1, s, l => if 0 < s.b.length ∧ s.e = 0 then atl k (a1S s l.length) (l ++ [a1A s l.length]) else (l, s)
/-- attrs. -/
def atR (s : FS) : List At × FS := atl ((nums (txA s)).length + 1) ⟨nums (txA s), 0⟩ []
def atA (s : FS) (c : Int) : List At := if has c 1048576 = true then (atR s).1 else []
def atS (s : FS) (c : Int) : FS := if has c 1048576 = true then waS (txS s) ((atR s).2.e == 0) else s

theorem atl_stop (k : Nat) {s : FS} (l : List At) (h : ¬ (0 < s.b.length ∧ s.e = 0)) : atl k s l = (l, s) := by
  cases k with
  | zero => rfl
  | succ k => unfold atl; rw [if_neg h]
theorem atl_go (k : Nat) {s : FS} (l : List At) (h : 0 < s.b.length ∧ s.e = 0) : atl (k + 1) s l = atl k (a1S s l.length) (l ++ [a1A s l.length]) := by
  rw [atl, if_pos h]
theorem waS_b (s : FS) (x : Bool) : (waS s x).b = s.b := by unfold waS; split <;> rfl
theorem waS_e0 {s : FS} {x : Bool} (h : (waS s x).e = 0) : s.e = 0 ∧ x = true := by
  unfold waS at h
  split at h
  · simp at h
  · rename_i q
    refine ⟨h, ?_⟩
    cases x
    · exact absurd ⟨h, rfl⟩ q
    · rfl
theorem readInt_pos {b : List Int} {x n e : Int} (h : readInt b = (x, n, e)) (he : e = 0) : 1 ≤ n := by
  cases b with
  | nil => simp [readInt] at h; omega
  | cons c r =>
    by_cases a : c ≤ 250
    · rw [readInt_small a] at h; simp at h; omega
    · by_cases d : widthOf c = 0
      · rw [readInt_bad a d] at h; simp at h; omega
      · by_cases f : (r.length : Int) < widthOf c
        · rw [readInt_short a d f] at h; simp at h; omega
        · rw [readInt_long a d f] at h
          simp at h
          have := widthOf_cases c
          omega
theorem readText_pos {b : List Int} (hb : Byt b) (he : (readText b).2.2 = 0) : 1 ≤ (readText b).2.1 := by
  obtain ⟨x, q, er, hr⟩ : ∃ x q er, readInt b = (x, q, er) := ⟨_, _, _, rfl⟩
  by_cases h0 : er = 0
  · subst h0
    have hs := readInt_shortest hb hr
    have hp := readInt_pos hr rfl
    by_cases h1 : (b.length : Int) - q < x
    · rw [readText_short hr h1] at he; simp at he
    · rw [readText_long hr h1]; simp only; omega
  · rw [readText_err hr h0] at he; exact absurd he h0
theorem paS_e (s : FS) (n : Nat) (e : Int) (h : (paS s n e).e = 0) (hs : s.e = 0) : e = 0 := by
  unfold paS at h
  split at h
  · assumption
  · exact h
theorem txS_e0 {s : FS} (h : (txS s).e = 0) : s.e = 0 := by
  unfold txS at h
  split at h
  · assumption
  · exact h
/-- A text that was read has one byte at least. -/
theorem txS_less {s : FS} (hb : Byt s.b) (h : (txS s).e = 0) (hp : 0 < s.b.length) : (txS s).b.length < s.b.length := by
  have h0 := txS_e0 h
  unfold txS at h ⊢
  rw [if_pos h0] at h ⊢
  have he := paS_e _ _ _ h h0
  have h1 := readText_pos hb he
  unfold paS
  rw [if_pos he]
  simp
  omega
theorem txS_le (s : FS) : (txS s).b.length ≤ s.b.length := by
  unfold txS paS
  split
  · split
    · simp
    · exact Nat.le_refl _
  · exact Nat.le_refl _
theorem txS_byt {s : FS} (h : Byt s.b) : Byt (txS s).b := by
  unfold txS paS
  split
  · split
    · exact h.drop _
    · exact h
  · exact h
theorem a1S_less {s : FS} {n : Nat} (hb : Byt s.b) (h : (a1S s n).e = 0) (hp : 0 < s.b.length) : (a1S s n).b.length < s.b.length ∧ n < 64 := by
  have h1 := txS_e0 h
  have h2 := txS_e0 h1
  have h3 := waS_e0 h2
  have h4 := txS_less (by rw [waS_b]; exact hb) h1 (by rw [waS_b]; exact hp)
  have h5 := txS_le (txS (waS s (decide (n < 64))))
  rw [waS_b] at h4
  exact ⟨Nat.lt_of_le_of_lt h5 h4, by simpa using h3.2⟩

/-- Only block g has changed, of those that were there, and then only newer ones. -/
theorem Gb.newer {g B : Nat} {w w1 w2 : World} (h : Gb g w w1) (hb : Below B w1 w2) (hB : w.heap.size ≤ B) : Gb g w w2 :=
  ⟨hb.os.trans h.os, hb.tape.trans h.tape, hb.output.trans h.output, Nat.le_trans h.size hb.size, fun k hk hn => (hb.block k (by omega)).trans (h.block k hk hn)⟩

/-- Behind attrs. -/
def OutA (g : Nat) (w : World) (l : List At) (s : FS) (e : Ending) (w' : World) : Prop := ∃ xo xn xc, e = .returned (.slice xo xn xc) ∧ AMine w.heap.size w' xo xn xc l ∧ OutF g w s w'

set_option maxHeartbeats 2000000 in
set_option maxRecDepth 100000 in
theorem attrs_rd (g : Nat) (w : World) (bo : Option Addr) (bn bc : Nat) (s : FS) (c : Int) (h : Fl g w bo bn bc s) (hsz : s.b.length ≤ 1099511627776) :
    Calls Try.prog 112 #[.pointer (some ⟨g, 0, none⟩), .int .u32 c] w fun e w' => OutA g w (atA s c) (atS s c) e w' := by
  have cE := hide (text_rd g w bo bn bc s h)
  have hlt := h.lt
  cases q : (bits .and .u32 c 1048576 == 0)
  · rw [show atA s c = (atR s).1 by unfold atA has; rw [q]; rfl, show atS s c = waS (txS s) ((atR s).2.e == 0) by unfold atS has; rw [q]; rfl]
    have HRR := hide (show atR s = atl ((nums (txA s)).length + 1) ⟨nums (txA s), 0⟩ [] from rfl)
    have HSZ := hide (show (txA s).size ≤ 140737488355328 by
      unfold txA
      split
      · obtain ⟨x, q, er, hr⟩ : ∃ x q er, readInt s.b = (x, q, er) := ⟨_, _, _, rfl⟩
        by_cases he : er = 0
        · subst he
          by_cases hs : (s.b.length : Int) - q < x
          · rw [readText_short hr hs]; exact Nat.zero_le _
          · rw [readText_long hr hs]
            simp only
            rw [show (strOfNums ((s.b.drop q.toNat).take x.toNat)).size = (strOfNums ((s.b.drop q.toNat).take x.toNat)).data.toList.length by simp, strOfNums_data]
            simp
            omega
        · rw [readText_err hr he]; exact Nat.zero_le _
      · exact Nat.zero_le _)
    generalize atR s = RR at *
    generalize txA s = tx at *
    generalize txS s = s1 at *
    clear h hsz
    go_enter Try.func112, Try.ntmps112
    go_wp2_with fail
    refine (unhide cE).mono ?_
    rintro e w1 ⟨rfl, ⟨bo1, bn1, bc1, hf⟩, gb⟩
    have hconv := run_toBytes tx
    have hbw := below_bytesWorld w1 5 tx
    have hsw := bs_bytesWorld w1 tx (unhide HSZ)
    obtain ⟨w2, hw2⟩ : ∃ w2, w2 = Lib.bytesWorld w1 5 tx := ⟨_, rfl⟩
    obtain ⟨cc, hcc⟩ : ∃ cc, cc = grownCap w1 tx.size 0 5 := ⟨_, rfl⟩
    rw [← hw2] at hbw hsw
    rw [← hcc] at hsw
    have hconv2 : (convert 9 22 (.string tx)).run Try.prog w1 = .ok (.slice (some ⟨w1.heap.size, 0, none⟩) tx.size cc) w2 := by rw [hw2, hcc]; exact hconv w1
    have hz1 := gb.size
    have hz2 := hbw.size
    have HF := hide ((hf.later hbw).later (below_alloc w2 (.cells #[.slice (some ⟨w1.heap.size, 0, none⟩) tx.size cc, .int .i64 0] 137)))
    have HI := hide (Fl.new hsw)
    have HB := hide (Below.refl w2.heap.size (w2.alloc (.cells #[.slice (some ⟨w1.heap.size, 0, none⟩) tx.size cc, .int .i64 0] 137)))
    have HG := hide (gb.trans ((Gb.of hbw).trans (Gb.of (below_alloc w2 (.cells #[.slice (some ⟨w1.heap.size, 0, none⟩) tx.size cc, .int .i64 0] 137)))))
    have hz3 : (w2.alloc (.cells #[.slice (some ⟨w1.heap.size, 0, none⟩) tx.size cc, .int .i64 0] 137)).heap.size = w2.heap.size + 1 := by simp
    clear hconv hw2 hcc hf gb hbw hsw cE
    generalize hw3 : w2.alloc (.cells #[.slice (some ⟨w1.heap.size, 0, none⟩) tx.size cc, .int .i64 0] 137) = w3 at HF HI HB HG hz3
    have HW3 := hide hw3
    clear hw3
    generalize hg2 : w2.heap.size = g2 at *
    have HG2 := hide hg2
    clear hg2
    go_wp2_with fail
    rw [unhide HW3, unhide HG2]
    clear hconv2
    go_loopg [6] ((nums tx).length + 1) (fun k v ws => ∃ (bo bc : Option Addr) (bn bcc n cp : Nat) (st : FS) (l : List At), v = .slice bc n cp ∧ AMine (g2 + 1) ws bc n cp l ∧ Fl g2 ws bo bn bcc st ∧ Below g2 w3 ws ∧ Hid (st.e = 0 → st.b.length < k ∧ l.length ≤ 64) ∧ l.length ≤ 65 ∧ Hid (RR = atl k st l))
    case atStart => exact ⟨_, _, _, _, _, _, _, [], rfl, AMine.nought _ _, unhide HI, unhide HB, hide (fun _ => ⟨Nat.lt_succ_self _, by simp⟩), by simp, HRR⟩
    case round =>
      obtain ⟨ao, lo, an, ac, n, cp, st, l, rfl, hm, hf, hb, hfu, hl65, hR⟩ := hrel
      have d0 := hf.c0
      have d1 := hf.c1
      have hln := hm.len
      have hale := hf.bs.le
      have hamx := hf.bs.max
      have halen := hf.bs.len
      have hbz := hb.size
      have hbyt := hf.bs.byt
      have HFI := hide hf
      have HM := hide hm
      have HB3 := hide hb
      clear hm hf hb
      by_cases hp : 0 < an ∧ st.e = 0
      · obtain ⟨hp1, hp2⟩ := hp
        have hp2' : (st.e == 0) = true := by simpa using hp2
        have hp1' : decide ((0 : Int) < (an : Int)) = true := by simpa using hp1
        obtain ⟨k', hk'⟩ : ∃ k', gk = k' + 1 := ⟨gk - 1, by have := (unhide hfu hp2).1; omega⟩
        have HK := hide hk'
        have hgo := atl_go k' l (s := st) ⟨by omega, hp2⟩
        rw [hk', hgo] at hR
        have hless := hide (fun q => a1S_less (s := st) (n := l.length) hbyt q (by omega))
        have HL0 := hide ((unhide hfu hp2).2)
        have HFU := hide (show st.b.length < k' + 1 by have := (unhide hfu hp2).1; omega)
        have cW := hide (want_out g2 wr ao an ac st (decide (n < 64)) (unhide HFI))
        have cT1 := hide (fun wx (bo : Option Addr) (bn bc : Nat) (hx : Fl g2 wx bo bn bc (waS st (decide (n < 64)))) => text_rd g2 wx bo bn bc (waS st (decide (n < 64))) hx)
        have cT2 := hide (fun wx (bo : Option Addr) (bn bc : Nat) (hx : Fl g2 wx bo bn bc (txS (waS st (decide (n < 64))))) => text_rd g2 wx bo bn bc (txS (waS st (decide (n < 64)))) hx)
        have EA := hide (show a1A st l.length = ⟨txA (waS st (decide (n < 64))), txA (txS (waS st (decide (n < 64))))⟩ by rw [hln]; rfl)
        have ES := hide (show a1S st l.length = txS (txS (waS st (decide (n < 64)))) by rw [hln]; rfl)
        generalize a1A st l.length = yA at *
        generalize a1S st l.length = yS at *
        generalize waS st (decide (n < 64)) = t1 at *
        generalize txS t1 = t2 at *
        generalize txA t1 = x1 at *
        generalize txS t2 = t3 at *
        generalize txA t2 = x2 at *
        obtain ⟨z, hz⟩ : ∃ z, decide ((n : Int) < 64) = z := ⟨_, rfl⟩
        have hzn : decide (n < 64) = z := by rw [← hz, decide_eq_decide]; omega
        rw [hzn] at cW
        have HLN := hide hln
        clear hgo hk' hfu halen hbyt hln hp2
        generalize st.e = E at d1 hp2'
        go_wp2_with fail
        refine (unhide cW).mono ?_
        rintro e wa ⟨rfl, ⟨boa, bna, bca, hfa⟩, gba⟩
        have HFA := hide hfa
        have HMA := hide ((unhide HM).gb (g := g2) (by omega) gba)
        have HBA := hide ((unhide HB3).trans (gba.below (by omega)))
        have hza := gba.size
        clear hfa gba HM HB3 cW HFI
        go_wp2_with fail
        refine (unhide cT1 _ _ _ _ (unhide HFA)).mono ?_
        rintro e wb ⟨rfl, ⟨bob, bnb, bcb, hfb⟩, gbb⟩
        have HFB := hide hfb
        have HMB := hide ((unhide HMA).gb (g := g2) (by omega) gbb)
        have HBB := hide ((unhide HBA).trans (gbb.below (by omega)))
        have hzb := gbb.size
        clear hfb gbb HMA HBA HFA cT1
        go_wp2_with fail
        refine (unhide cT2 _ _ _ _ (unhide HFB)).mono ?_
        rintro e wc ⟨rfl, ⟨boc, bnc, bcc, hfc⟩, gbc⟩
        have HFC := hide hfc
        have HMC := hide ((unhide HMB).gb (g := g2) (by omega) gbc)
        have HBC := hide ((unhide HBB).trans (gbc.below (by omega)))
        have hzc := gbc.size
        clear hfc gbc HMB HBB HFB cT2
        have hbd := below_alloc wc (.cells (av ⟨x1, x2⟩) 125)
        have HMD := hide ((unhide HMC).later hbd)
        have HFD := hide ((unhide HFC).later hbd)
        have HBD := hide ((unhide HBC).trans (hbd.mono (by omega)))
        have HXD := hide (ax_new wc ⟨x1, x2⟩)
        have hzd : (wc.alloc (.cells (av ⟨x1, x2⟩) 125)).heap.size = wc.heap.size + 1 := by simp
        rw [show (.cells (av ⟨x1, x2⟩) 125 : Obj) = .cells #[.string x1, .string x2] 125 from rfl] at HMD HFD HBD HXD hzd
        clear hbd HMC HFC HBC
        go_wp2_with (at_builtin; refine wpList_aapp rfl (.tmp 36) (.tmp 41) rfl (g2 + 1) _ _ _ _ rfl (unhide HMD) _ ⟨x1, x2⟩ rfl (unhide HXD) (by have := unhide HLN; omega) (by omega) ?_; intro ao5 c5 w5 m5 b5; have HM5 := hide m5; have HF5 := hide ((unhide HFD).above b5); have HB5 := hide ((unhide HBD).trans (b5.mono (by omega))); clear m5 b5)
        go_roundg k'
        case measure => have := unhide HK; omega
        case rel =>
          have hl0 := unhide HL0
          have hln := unhide HLN
          refine ⟨_, _, _, _, _, _, t3, l ++ [⟨x1, x2⟩], rfl, unhide HM5, unhide HF5, unhide HB5, hide (fun q => ?_), by simp; omega, hide ?_⟩
          · have := unhide hless (by rw [unhide ES]; exact q)
            rw [unhide ES] at this
            simp
            have h3 := unhide HL0
            have h4 := unhide HFU
            omega
          · rw [unhide hR, unhide ES, unhide EA]
      · have hst := atl_stop gk l (s := st) (by rw [halen]; exact hp)
        rw [hst] at hR
        have cW := hide (want_out g wr bo1 bn1 bc1 s1 (st.e == 0) ((unhide HF).above ((unhide HB3).mono (by omega))))
        have HRE := hide (show RR.1 = l ∧ RR.2 = st by rw [unhide hR]; exact ⟨rfl, rfl⟩)
        have HMW := hide ((unhide HM).mono (show w.heap.size ≤ g2 + 1 by omega))
        have HGW := hide ((unhide HG).newer (unhide HB3) (by omega))
        have HP := hide hp
        obtain ⟨z, hz⟩ : ∃ z, (st.e == 0) = z := ⟨_, rfl⟩
        rw [hz] at cW
        have FIN : ∀ wd : World, OutF g wr (waS s1 z) wd → OutA g w RR.1 (waS s1 (RR.2.e == 0)) (.returned (.slice lo n cp)) wd := by
          intro wd ho
          rw [(unhide HRE).1, (unhide HRE).2, hz]
          exact ⟨_, _, _, rfl, (unhide HMW).gb (g := g) (by omega) ho.2, ho.1, (unhide HGW).trans ho.2⟩
        have HFIN := hide FIN
        clear hst hp halen hbyt HM HB3 HG HF HFI HI FIN hfu HRE hR
        rcases Nat.eq_zero_or_pos an with h0 | h0
        · subst h0
          generalize st.e = E at d1 hz
          cases z
          all_goals go_wp2_with fail
          all_goals refine (unhide cW).mono ?_
          all_goals rintro e wd ⟨rfl, ho⟩
          all_goals have HO := hide ho
          all_goals clear ho
          all_goals go_wp2_with fail
          all_goals go_ret
          all_goals exact unhide HFIN _ (unhide HO)
        · have h0' : decide ((0 : Int) < (an : Int)) = true := by simpa using h0
          have he : (st.e == 0) = false := by
            have : ¬ st.e = 0 := fun q => unhide HP ⟨h0, q⟩
            simpa using this
          rw [he] at hz
          subst hz
          clear HP
          generalize st.e = E at d1 he
          go_wp2_with fail
          refine (unhide cW).mono ?_
          rintro e wd ⟨rfl, ho⟩
          have HO := hide ho
          clear ho
          go_wp2_with fail
          go_ret
          exact unhide HFIN _ (unhide HO)
  · rw [show atA s c = [] by unfold atA has; rw [q]; rfl, show atS s c = s by unfold atS has; rw [q]; rfl]
    have H := hide h
    clear h cE
    go_enter Try.func112, Try.ntmps112
    go_wp2_with fail
    go_ret
    exact ⟨_, _, _, rfl, AMine.nought _ _, ⟨_, _, _, unhide H⟩, Gb.refl _ _⟩

end Go.Proofs.Ytkijdkbkbelliaa
