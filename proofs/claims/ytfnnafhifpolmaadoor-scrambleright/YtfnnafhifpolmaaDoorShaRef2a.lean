/-
  The second loop of the document's Sum256: a block's schedule. Conditions: sixteen words, fewer than 2 times 10 to the 5 bytes.
-/
import Derived.Test.YtfnnafhifpolmaaDoorShaRefP
import Derived.StillTailTactics
namespace Go.Proofs.YtfnnafhifpolmaaDoor
open Go.RowKit
set_option linter.unusedVariables false
set_option linter.unusedSimpArgs false

/-- The bodies of a code's loops, in the order of its text. -/
def loopsOf : Code → List Code
  | .loop c => c :: loopsOf c
  | .seq a b => loopsOf a ++ loopsOf b
  | .block _ c => loopsOf c
  | .scope c => loopsOf c
  | .cond _ a b => loopsOf a ++ loopsOf b
  | _ => []

set_option maxHeartbeats 8000000 in
set_option maxRecDepth 20000 in
theorem sched_ref (code : Code) (hcode : ((Tryd.f40.body.map loopsOf).getD [])[1]? = some code) (Q : Exit → Act → World → Prop) (c0 c1 c2 c3 c4 c9 c10 c11 c12 c13 c14 c15 c16 c17 c18 c19 c20 c21 c22 c23 c24 c25 c26 c27 c28 c29 c30 c31 c32 c33 c34 c35 c36 c37 c38 c39 c40 c41 c42 c43 c44 c45 c46 c47 c48 c49 c50 c51 c52 c53 c54 c55 c56 c57 c58 c59 c60 c61 c62 c63 c64 c65 c66 c67 c68 c69 c70 c71 c72 c73 c74 c75 c76 c77 c78 c79 c80 c81 c82 c83 c84 c85 c86 c87 c88 c89 c90 c91 c92 c93 c94 c95 c96 c97 c98 c99 c100 c101 c102 c103 c104 c105 c106 c107 c108 c109 c110 c111 c112 c113 c114 c115 c116 c117 c118 c119 c120 c121 c122 c123 c124 c125 c126 c127 c128 c129 c130 c131 c132 c133 c134 c135 c136 c137 c138 c139 c140 c141 c142 c143 c144 c145 c146 c147 c148 c149 c150 c151 c152 c153 c154 c155 c156 c157 c158 c159 c160 c161 c162 c163 c164 c165 c166 c167 c168 c169 c170 c171 c172 c173 c174 c175 c176 c177 c178 c179 c180 c181 c182 c183 c184 c185 c186 c187 c188 c189 c190 c191 c192 c193 c194 c195 c196 c197 c198 c199 c200 c201 c202 c203 c204 c205 c206 c207 c208 c209 c210 c211 c212 c213 c214 c215 c216 c217 : Value)
    (po : Option Addr) (pn pcap A Z : Nat) (P b : List Int) (w0 w2 : World) (hZ : w0.heap.size = Z) (hP : Bs w0 po pn pcap P) (hA64 : A + 64 ≤ pn) (hpb2 : pn ≤ 200000)
    (hbk0 : b.length = 16) (hbw0 : Wds b) (hwb0 : ∀ t, t < 16 → be4 (ix (P.drop A) (4 * t)) (ix (P.drop A) (4 * t + 1)) (ix (P.drop A) (4 * t + 2)) (ix (P.drop A) (4 * t + 3)) = ix b t)
    (M20 : UMine Z w2 (some ⟨Z, 0, none⟩) 64 64 (rowt nx2 b 64 0)) (B20 : Below Z w0 w2) (z2 : Z < w2.heap.size)
    (hexit0 : ∀ (u8 u9 u10 u27 u28 u29 u30 u31 u32 u33 u34 u35 u36 u37 u38 u39 u40 u41 u42 u43 u44 u45 u46 u47 u48 u49 u50 u51 u52 u53 u54 u55 u56 u57 u58 u59 u60 u61 u62 u63 u64 u65 u66 u67 u68 u69 u70 u71 u72 u73 u74 u75 u76 u77 u78 u79 u80 u81 u82 : Value) (ws : World), UMine Z ws (some ⟨Z, 0, none⟩) 64 64 (sch2 b) → Below Z w0 ws → Z < ws.heap.size → Q (.exit 2) ⟨List.toArray (c0 :: c1 :: c2 :: c3 :: c4 :: .slice po pn pcap :: .int .i64 (A : Int) :: .slice (some ⟨Z, 0, none⟩) 64 64 :: u8 :: u9 :: u10 :: c11 :: c12 :: c13 :: c14 :: c15 :: c16 :: c17 :: c18 :: c19 :: c20 :: c21 :: c22 :: c23 :: c24 :: c25 :: c26 :: u27 :: u28 :: u29 :: u30 :: u31 :: u32 :: u33 :: u34 :: u35 :: u36 :: u37 :: u38 :: u39 :: u40 :: u41 :: u42 :: u43 :: u44 :: u45 :: u46 :: u47 :: u48 :: u49 :: u50 :: u51 :: u52 :: u53 :: u54 :: u55 :: u56 :: u57 :: u58 :: u59 :: u60 :: u61 :: u62 :: u63 :: u64 :: u65 :: u66 :: u67 :: u68 :: u69 :: u70 :: u71 :: u72 :: u73 :: u74 :: u75 :: u76 :: u77 :: u78 :: u79 :: u80 :: u81 :: u82 :: c83 :: c84 :: c85 :: c86 :: c87 :: c88 :: c89 :: c90 :: c91 :: c92 :: c93 :: c94 :: c95 :: c96 :: c97 :: c98 :: c99 :: c100 :: c101 :: c102 :: c103 :: c104 :: c105 :: c106 :: c107 :: c108 :: c109 :: c110 :: c111 :: c112 :: c113 :: c114 :: c115 :: c116 :: c117 :: c118 :: c119 :: c120 :: c121 :: c122 :: c123 :: c124 :: c125 :: c126 :: c127 :: c128 :: c129 :: c130 :: c131 :: c132 :: c133 :: c134 :: c135 :: c136 :: c137 :: c138 :: c139 :: c140 :: c141 :: c142 :: c143 :: c144 :: c145 :: c146 :: c147 :: c148 :: c149 :: c150 :: c151 :: c152 :: c153 :: c154 :: c155 :: c156 :: c157 :: c158 :: c159 :: c160 :: c161 :: c162 :: c163 :: c164 :: c165 :: c166 :: c167 :: c168 :: c169 :: c170 :: c171 :: c172 :: c173 :: c174 :: c175 :: c176 :: c177 :: c178 :: c179 :: c180 :: c181 :: c182 :: c183 :: c184 :: c185 :: c186 :: c187 :: c188 :: c189 :: c190 :: c191 :: c192 :: c193 :: c194 :: c195 :: c196 :: c197 :: c198 :: c199 :: c200 :: c201 :: c202 :: c203 :: c204 :: c205 :: c206 :: c207 :: c208 :: c209 :: c210 :: c211 :: c212 :: c213 :: c214 :: c215 :: c216 :: c217 :: []), []⟩ ws) :
    Code.wp Tryd.prog (.loop code) Q ⟨List.toArray (c0 :: c1 :: c2 :: c3 :: c4 :: .slice po pn pcap :: .int .i64 (A : Int) :: .slice (some ⟨Z, 0, none⟩) 64 64 :: .int .i64 0 :: c9 :: c10 :: c11 :: c12 :: c13 :: c14 :: c15 :: c16 :: c17 :: c18 :: c19 :: c20 :: c21 :: c22 :: c23 :: c24 :: c25 :: c26 :: c27 :: c28 :: c29 :: c30 :: c31 :: c32 :: c33 :: c34 :: c35 :: c36 :: c37 :: c38 :: c39 :: c40 :: c41 :: c42 :: c43 :: c44 :: c45 :: c46 :: c47 :: c48 :: c49 :: c50 :: c51 :: c52 :: c53 :: c54 :: c55 :: c56 :: c57 :: c58 :: c59 :: c60 :: c61 :: c62 :: c63 :: c64 :: c65 :: c66 :: c67 :: c68 :: c69 :: c70 :: c71 :: c72 :: c73 :: c74 :: c75 :: c76 :: c77 :: c78 :: c79 :: c80 :: c81 :: c82 :: c83 :: c84 :: c85 :: c86 :: c87 :: c88 :: c89 :: c90 :: c91 :: c92 :: c93 :: c94 :: c95 :: c96 :: c97 :: c98 :: c99 :: c100 :: c101 :: c102 :: c103 :: c104 :: c105 :: c106 :: c107 :: c108 :: c109 :: c110 :: c111 :: c112 :: c113 :: c114 :: c115 :: c116 :: c117 :: c118 :: c119 :: c120 :: c121 :: c122 :: c123 :: c124 :: c125 :: c126 :: c127 :: c128 :: c129 :: c130 :: c131 :: c132 :: c133 :: c134 :: c135 :: c136 :: c137 :: c138 :: c139 :: c140 :: c141 :: c142 :: c143 :: c144 :: c145 :: c146 :: c147 :: c148 :: c149 :: c150 :: c151 :: c152 :: c153 :: c154 :: c155 :: c156 :: c157 :: c158 :: c159 :: c160 :: c161 :: c162 :: c163 :: c164 :: c165 :: c166 :: c167 :: c168 :: c169 :: c170 :: c171 :: c172 :: c173 :: c174 :: c175 :: c176 :: c177 :: c178 :: c179 :: c180 :: c181 :: c182 :: c183 :: c184 :: c185 :: c186 :: c187 :: c188 :: c189 :: c190 :: c191 :: c192 :: c193 :: c194 :: c195 :: c196 :: c197 :: c198 :: c199 :: c200 :: c201 :: c202 :: c203 :: c204 :: c205 :: c206 :: c207 :: c208 :: c209 :: c210 :: c211 :: c212 :: c213 :: c214 :: c215 :: c216 :: c217 :: []), []⟩ w2 := by
  have hexit := hide hexit0
  have hbk := hide hbk0
  have hbw := hide hbw0
  have hwb := hide hwb0
  have M2 := hide M20
  have B2 := hide B20
  have hnP := hP.le
  have hnM := hP.max
  obtain ⟨ac, cc, hct, hcb⟩ := hP.cut_l (lo := A) (by omega) (A : Int) rfl
  have KC := hide (fun (ws : World) (hb : Below Z w0 ws) => (show Bs ws ac (pn - A) cc (P.drop A) from hcb.later (by rw [hZ]; exact hb)))
  clear hexit0 hbk0 hbw0 hwb0 M20 B20 hcb hP
  change some _ = some code at hcode
  obtain rfl := Option.some.inj hcode
  clear hcode
  go_loopw [8] (fun i ws => ∃ t : Nat, t ≤ 64 ∧ i = .int .i64 t ∧ UMine Z ws (some ⟨Z, 0, none⟩) 64 64 (rowt nx2 b 64 t) ∧ Below Z w0 ws ∧ Z < ws.heap.size) (fun i _ => 64 - (intOf i).toNat)
  case atStart => exact ⟨0, by omega, rfl, unhide M2, unhide B2, z2⟩
  case round =>
    clear M2 B2
    obtain ⟨t, ht, rfl, hM, hB, hz⟩ := hrel
    by_cases hlt2 : t < 64
    · by_cases h16 : t < 16
      · have wc := hide (word_ref ac (pn - A) cc _ (t : Int) t rfl wr (unhide KC wr hB) (by omega) (by omega))
        rw [unhide hwb t h16] at wc
        have hst := hide (rowt_low nx2 b (unhide hbk) 64 t h16 (by omega))
        have ct := umine_at hM hlt2
        have fr := hM.free t
        have hbt := (unhide hbw) t
        obtain ⟨b0, b1⟩ := hbt
        have it : 0 ≤ (t : Int) ∧ (t : Int) < 64 := by omega
        have HM := hide hM
        have HBl := hide hB
        generalize ix (rowt nx2 b 64 t) t = X0 at *
        generalize ix b t = X at *
        clear hM hB
        go_wp2_with fail
        refine (unhide wc).mono ?_
        rintro e w5 ⟨rfl, kd, rfl⟩
        go_wp2_with fail
        go_roundw
        case rel =>
          refine ⟨t + 1, by omega, by go_num, ?_, (Below.trans (unhide HBl) (c := wr.drewN _) ⟨rfl, rfl, rfl, Nat.le_refl _, fun _ _ => rfl⟩).setCell (by simp <;> omega) _, by simpa using hz⟩
          rw [← unhide hst]
          exact UMine.stored (w := wr.drewN _) ((unhide HM).later (below_drewN wr _)) t _ b0 b1
        case measure => simp [intOf]; omega
      · obtain ⟨n, hn⟩ : ∃ n, t = 16 + n := ⟨t - 16, by omega⟩
        have hlen := unhide hbk
        obtain ⟨m', hm'⟩ : ∃ m', 64 - (16 + n) = m' + 1 := ⟨47 - n, by omega⟩
        have hrow := rowt_high nx2 b hlen 64 n
        have hrow2 := rowt_high nx2 b hlen 64 (n + 1)
        rw [hm'] at hrow
        rw [show 64 - (16 + (n + 1)) = m' by omega] at hrow2
        have hst := hide (rw_step nx2 b hlen n m')
        rw [← hrow, ← hrow2, show 16 + (n + 1) = t + 1 by omega, ← hn] at hst
        have hll := rw_len nx2 b hlen n (m' + 1)
        have hrw := rs_wds nx2 nx2_wd b (unhide hbw) n
        have c2 := umine_at hM (i := t - 2) (by omega)
        have c7 := umine_at hM (i := t - 7) (by omega)
        have c15 := umine_at hM (i := t - 15) (by omega)
        have c16 := umine_at hM (i := t - 16) (by omega)
        have ct := umine_at hM (i := t) (by omega)
        have fr := hM.free t
        rw [hn, hrow, ← hn, rw_at nx2 b hlen n (m' + 1) 1 (t - 2) (by omega)] at c2
        rw [hn, hrow, ← hn, rw_at nx2 b hlen n (m' + 1) 6 (t - 7) (by omega)] at c7
        rw [hn, hrow, ← hn, rw_at nx2 b hlen n (m' + 1) 14 (t - 15) (by omega)] at c15
        rw [hn, hrow, ← hn, rw_at nx2 b hlen n (m' + 1) 15 (t - 16) (by omega)] at c16
        have hnx2 := hide (show nx2 (rs nx2 b n) = (((sg1 (ix (rs nx2 b n) 1) + ix (rs nx2 b n) 6) % 4294967296 + sg0 (ix (rs nx2 b n) 14)) % 4294967296 + ix (rs nx2 b n) 15) % 4294967296 from rfl)
        obtain ⟨p2, hp2⟩ : ∃ p : Nat, t - 2 = p := ⟨_, rfl⟩
        obtain ⟨p7, hp7⟩ : ∃ p : Nat, t - 7 = p := ⟨_, rfl⟩
        obtain ⟨p15, hp15⟩ : ∃ p : Nat, t - 15 = p := ⟨_, rfl⟩
        obtain ⟨p16, hp16⟩ : ∃ p : Nat, t - 16 = p := ⟨_, rfl⟩
        have n7 : ¬ t = p7 := by omega
        have n16 : ¬ t = p16 := by omega
        have e2 : (t : Int) - 2 = (p2 : Int) := by omega
        have e7 : (t : Int) - 7 = (p7 : Int) := by omega
        have e15 : (t : Int) - 15 = (p15 : Int) := by omega
        have e16 : (t : Int) - 16 = (p16 : Int) := by omega
        have v2 : IntKind.i64.wrap (p2 : Int) = (p2 : Int) := by rw [IntKind.wrap_i64]; omega
        have v7 : IntKind.i64.wrap (p7 : Int) = (p7 : Int) := by rw [IntKind.wrap_i64]; omega
        have v15 : IntKind.i64.wrap (p15 : Int) = (p15 : Int) := by rw [IntKind.wrap_i64]; omega
        have v16 : IntKind.i64.wrap (p16 : Int) = (p16 : Int) := by rw [IntKind.wrap_i64]; omega
        rw [hp2] at c2
        rw [hp7] at c7
        rw [hp15] at c15
        rw [hp16] at c16
        obtain ⟨x20, x21⟩ := hrw 1
        obtain ⟨x70, x71⟩ := hrw 6
        obtain ⟨x150, x151⟩ := hrw 14
        obtain ⟨x160, x161⟩ := hrw 15
        clear hrw
        generalize ix (rs nx2 b n) 1 = X2 at *
        generalize ix (rs nx2 b n) 6 = X7 at *
        generalize ix (rs nx2 b n) 14 = X15 at *
        generalize ix (rs nx2 b n) 15 = X16 at *
        generalize ix (rowt nx2 b 64 t) t = X at *
        have r1 := hide (fun wx => rol_ref X2 15 15 rfl wx ⟨x20, x21⟩ (by omega) (by omega))
        have r2 := hide (fun wx => rol_ref X2 13 13 rfl wx ⟨x20, x21⟩ (by omega) (by omega))
        have r3 := hide (fun wx => rol_ref X15 25 25 rfl wx ⟨x150, x151⟩ (by omega) (by omega))
        have r4 := hide (fun wx => rol_ref X15 14 14 rfl wx ⟨x150, x151⟩ (by omega) (by omega))
        have g0 := hide (show bits .xor .u32 (bits .xor .u32 (rot X15 25) (rot X15 14)) (X15 / 8) = sg0 X15 from rfl)
        have g1 := hide (show bits .xor .u32 (bits .xor .u32 (rot X2 15) (rot X2 13)) (X2 / 1024) = sg1 X2 from rfl)
        have HM := hide hM
        have HBl := hide hB
        have i2 : 0 ≤ (p2 : Int) ∧ (p2 : Int) < 64 := by omega
        have i7 : 0 ≤ (p7 : Int) ∧ (p7 : Int) < 64 := by omega
        have i15 : 0 ≤ (p15 : Int) ∧ (p15 : Int) < 64 := by omega
        have i16 : 0 ≤ (p16 : Int) ∧ (p16 : Int) < 64 := by omega
        have it : 0 ≤ (t : Int) ∧ (t : Int) < 64 := by omega
        have t16 : ¬ (t : Int) < 16 := by omega
        clear hM hB hp2 hp7 hp15 hp16 hll hm' hlen hn hrow hrow2
        go_wp2_with fail
        go_quiet (fail)
        obtain ⟨wa, hwa⟩ : ∃ wx, wx = wr.drewN nq := ⟨_, rfl⟩
        rw [← hwa]
        replace c7 : wa.cell? ⟨Z, p7, none⟩ = some (.int .u32 X7) := by rw [hwa]; exact c7
        replace c16 : wa.cell? ⟨Z, p16, none⟩ = some (.int .u32 X16) := by rw [hwa]; exact c16
        replace ct : wa.cell? ⟨Z, t, none⟩ = some (.int .u32 X) := by rw [hwa]; exact ct
        replace fr : wa.frozen? ⟨Z, t, none⟩ = false := by rw [hwa]; exact fr
        replace HM := hide (show UMine Z wa (some ⟨Z, 0, none⟩) 64 64 (rowt nx2 b 64 t) by rw [hwa]; exact (unhide HM).later (below_drewN wr _))
        replace HBl := hide ((unhide HBl).trans (c := wa) (by rw [hwa]; exact ⟨rfl, rfl, rfl, Nat.le_refl _, fun _ _ => rfl⟩))
        replace hz : Z < wa.heap.size := by rw [hwa]; exact hz
        clear hwa nq c2 c15
        go_wp2_with fail
        replace r1 := unhide r1 wa.drew
        replace r2 := unhide r2 wa.drew
        replace r3 := unhide r3 wa.drew
        replace r4 := unhide r4 wa.drew
        refine wp_region_still_tail 32 (by kernel_rfl) (by kernel_rfl) ?_
        change wpStill _ _ wa.drew _ _ _
        simp only [List.take_succ_cons, List.take_zero, List.drop_succ_cons, List.drop_zero]
        repeat still_step
        still_call r1
        repeat still_step
        still_call r2
        repeat still_step
        still_call r3
        repeat still_step
        still_call r4
        repeat still_step
        refine wpStill_nil ?_
        go_wp2_with fail
        go_roundw
        case rel =>
          have hval : (bits .xor .u32 (bits .xor .u32 (rot X2 15) (rot X2 13)) (X2 / 1024) + X7 + bits .xor .u32 (bits .xor .u32 (rot X15 25) (rot X15 14)) (X15 / 8) + X16) % 4294967296 = nx2 (rs nx2 b n) := by rw [unhide hnx2, unhide g0, unhide g1]; omega
          have hvw := nx2_wd (rs nx2 b n)
          rw [hval]
          refine ⟨t + 1, by omega, by go_num, ?_, ((unhide HBl).setCell (by simp <;> omega) _).drew, by simpa using hz⟩
          rw [← unhide hst]
          exact ((unhide HM).stored t _ hvw.1 hvw.2).later (below_drew _)
        case measure => simp [intOf]; omega
    · have ht80 : t = 64 := by omega
      have M3 := hide (show UMine Z wr (some ⟨Z, 0, none⟩) 64 64 (sch2 b) by
        have := rowt_high nx2 b (unhide hbk) 64 48
        rw [ht80, show (64 : Nat) = 16 + 48 from rfl, this, show 64 - (16 + 48) = 0 from rfl, rw_all] at hM
        exact hM)
      have B3 := hide hB
      have hgt : ¬ (t : Int) < 64 := by omega
      clear hM hB hlt2 KC
      go_wp2_with fail
      exact unhide hexit _ _ _ _ _ _ _ _ _ _ _ _ _ _ _ _ _ _ _ _ _ _ _ _ _ _ _ _ _ _ _ _ _ _ _ _ _ _ _ _ _ _ _ _ _ _ _ _ _ _ _ _ _ _ _ _ _ _ _ _ (unhide M3) (unhide B3) hz

end Go.Proofs.YtfnnafhifpolmaaDoor
