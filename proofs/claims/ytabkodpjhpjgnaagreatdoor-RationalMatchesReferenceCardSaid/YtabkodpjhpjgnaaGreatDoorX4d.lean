/- RationalField from its products to its sums of products. -/
import Derived.Test.YtabkodpjhpjgnaaGreatDoorX4c
namespace Go.Proofs.YtabkodpjhpjgnaaGreatDoor
open Go.RowKit Go.Shelf

noncomputable def fieldT3 : Code := (Tryz.f6.body.bind (fromRegion 17)).getD .skip
set_option maxRecDepth 100000 in
set_option maxHeartbeats 16000000 in
theorem field_tail3 (NA DA NB DB NC DC S0 T0 S1 T1 S2 T2 S3 T3 P0 PD0 P1 PD1 P2 PD2 P3 PD3 H2 J2 W1s W2s L1s L2s A1s A2s M1s M2s K1s K2s N1s N2s : ByteArray) (e0 e1 e2 e3 g0 g1 g2 g3 h2 j1 k1 l1 m1 o1 p1 : Int) (w V10 : World) (ga gb gc n1 n3 : Nat)
    (CTW : CallT 39 #[rvB NA DA, rvB P2 PD2] (.tuple #[rvB W1s W2s, .int .i64 j1]))
    (CLE : CallT 39 #[rvB S2 T2, rvB NC DC] (.tuple #[rvB L1s L2s, .int .i64 k1]))
    (CAC : CallT 39 #[rvB NA DA, rvB NC DC] (.tuple #[rvB A1s A2s, .int .i64 l1]))
    (CSU : CallT 38 #[rvB A1s A2s, rvB P2 PD2] (.tuple #[rvB M1s M2s, .int .i64 m1]))
    (CWH : CallT 39 #[rvB S0 T0, rvB NC DC] (.tuple #[rvB H2 J2, .int .i64 h2]))
    (CBA : CallT 40 #[rvB S0 T0, rvB NB DB] (.tuple #[rvB K1s K2s, .int .i64 o1]))
    (CAG : CallT 39 #[rvB S3 T3, rvB NB DB] (.tuple #[rvB N1s N2s, .int .i64 p1]))
    (Q2 : e2 = 0 → g2 = 0 → j1 = 0 → k1 = 0 → W1s = L1s ∧ W2s = L2s)
    (Q3 : e0 = 0 → l1 = 0 → g2 = 0 → m1 = 0 → h2 = 0 → M1s = H2 ∧ M2s = J2)
    (Q4 : e0 = 0 → o1 = 0 → K1s = NA ∧ K2s = DA)
    (Q5 : e3 = 0 → p1 = 0 → N1s = NA ∧ N2s = DA)
    (ht : TabP w) (hb : Below w.heap.size w V10) (hr : Rws V10 [(n3 + 1, 33, #[.int .i64 g0, .int .i64 g1, .int .i64 g2, .int .i64 g3]), (n3, 31, #[.string P0, .string PD0, .string P1, .string PD1, .string P2, .string PD2, .string P3, .string PD3]), (n1 + 1, 33, #[.int .i64 e0, .int .i64 e1, .int .i64 e2, .int .i64 e3]), (n1, 31, #[.string S0, .string T0, .string S1, .string T1, .string S2, .string T2, .string S3, .string T3]), (gb, 23, #[.string NB, .string DB]), (ga, 23, #[.string NA, .string DA]), (gc, 23, #[.string NC, .string DC])]) (v0 v1 v2 v3 v4 v5 v6 v7 v15 v16 v19 v20 v21 v22 v23 v24 v25 v26 v27 v28 v29 v30 v31 v32 v33 v34 v35 v36 v37 v38 v39 v40 v41 v42 v43 v44 v45 v46 v47 v48 v49 v50 v51 v52 v53 v54 v55 v56 v57 v58 v59 v60 v61 v62 v63 v64 v65 v66 v67 v68 v69 v70 v71 v72 v73 v74 v75 v76 v77 v78 v79 v80 v81 v82 v83 v84 v85 v86 v87 v88 v89 v90 v91 v92 v93 v94 v95 v96 v97 v98 v99 v100 v101 v102 v103 v104 v105 v106 v107 v108 v109 v110 v111 v112 v113 v114 v115 v116 v117 v118 v119 v120 v121 v122 v123 v124 v125 v126 v127 v128 v129 v130 v131 v132 v133 v134 v135 v136 v137 v138 v139 v140 v141 v142 v143 v144 v145 v146 v147 v148 v149 v150 v151 v152 v153 v154 v155 v156 v157 v158 v159 v160 v161 v162 v163 v164 v165 v166 v167 v168 v169 v170 v171 v172 v173 v174 v175 v176 v177 v178 v179 v180 v181 v182 v183 v184 v185 v186 v187 v188 v189 v190 v191 v192 v193 v194 v195 v196 v197 v198 v199 v200 v201 v202 v203 v204 v205 v206 v207 v208 v209 v210 v211 v212 v213 v214 v215 v216 v217 v218 v219 v220 v221 v222 v223 v224 v225 v226 v227 v228 v229 v230 v231 v232 v233 v234 v235 v236 v237 v238 v239 v240 v241 v242 v243 v244 v245 v246 v247 v248 v249 v250 v251 v252 v253 v254 v255 v256 v257 v258 v259 v260 v261 v262 v263 v264 v265 v266 v267 v268 v269 v270 v271 v272 v273 v274 : Value) :
    Code.wp Tryz.prog fieldT3 (bodyPost Tryz.prog Tryz.f6 fun e w' => e = .returned (.bool true) ∧ Below w.heap.size w w') ⟨#[v0, v1, v2, v3, v4, v5, v6, v7, .bool false, .bool true, .pointer (some ⟨ga, 0, none⟩), .pointer (some ⟨gb, 0, none⟩), .pointer (some ⟨gc, 0, none⟩), .pointer (some ⟨n1, 0, none⟩), .pointer (some ⟨n1 + 1, 0, none⟩), v15, v16, .pointer (some ⟨n3, 0, none⟩), .pointer (some ⟨n3 + 1, 0, none⟩), v19, v20, v21, v22, v23, v24, v25, v26, v27, v28, v29, v30, v31, v32, v33, v34, v35, v36, v37, v38, v39, v40, v41, v42, v43, v44, v45, v46, v47, v48, v49, v50, v51, v52, v53, v54, v55, v56, v57, v58, v59, v60, v61, v62, v63, v64, v65, v66, v67, v68, v69, v70, v71, v72, v73, v74, v75, v76, v77, v78, v79, v80, v81, v82, v83, v84, v85, v86, v87, v88, v89, v90, v91, v92, v93, v94, v95, v96, v97, v98, v99, v100, v101, v102, v103, v104, v105, v106, v107, v108, v109, v110, v111, v112, v113, v114, v115, v116, v117, v118, v119, v120, v121, v122, v123, v124, v125, v126, v127, v128, v129, v130, v131, v132, v133, v134, v135, v136, v137, v138, v139, v140, v141, v142, v143, v144, v145, v146, v147, v148, v149, v150, v151, v152, v153, v154, v155, v156, v157, v158, v159, v160, v161, v162, v163, v164, v165, v166, v167, v168, v169, v170, v171, v172, v173, v174, v175, v176, v177, v178, v179, v180, v181, v182, v183, v184, v185, v186, v187, v188, v189, v190, v191, v192, v193, v194, v195, v196, v197, v198, v199, v200, v201, v202, v203, v204, v205, v206, v207, v208, v209, v210, v211, v212, v213, v214, v215, v216, v217, v218, v219, v220, v221, v222, v223, v224, v225, v226, v227, v228, v229, v230, v231, v232, v233, v234, v235, v236, v237, v238, v239, v240, v241, v242, v243, v244, v245, v246, v247, v248, v249, v250, v251, v252, v253, v254, v255, v256, v257, v258, v259, v260, v261, v262, v263, v264, v265, v266, v267, v268, v269, v270, v271, v272, v273, v274], []⟩ V10 := by
  have HCTW := Lib.hid CTW
  have HCLE := Lib.hid CLE
  have HCAC := Lib.hid CAC
  have HCSU := Lib.hid CSU
  have HCWH := Lib.hid CWH
  have HCBA := Lib.hid CBA
  have HCAG := Lib.hid CAG
  have HQ2 := Lib.hid Q2
  have HQ3 := Lib.hid Q3
  have HQ4 := Lib.hid Q4
  have HQ5 := Lib.hid Q5
  have HT := Lib.hid ht; have HB := Lib.hid hb; have HR := Lib.hid hr
  clear ht hb hr CTW CLE CAC CSU CWH CBA CAG Q2 Q3 Q4 Q5
  unfold rvB at *
  conv => arg 2; whnf
  have x5_0 : V10.cell? ⟨ga, 0, none⟩ = some (.string NA) := (HR.out.at (x := (ga, 23, #[.string NA, .string DA])) 5 rfl).cell 0
  have x5_1 : V10.cell? ⟨ga, 1, none⟩ = some (.string DA) := (HR.out.at (x := (ga, 23, #[.string NA, .string DA])) 5 rfl).cell 1
  have y5 : ga < V10.heap.size := (HR.out.at (x := (ga, 23, #[.string NA, .string DA])) 5 rfl).lt
  have x6_0 : V10.cell? ⟨gc, 0, none⟩ = some (.string NC) := (HR.out.at (x := (gc, 23, #[.string NC, .string DC])) 6 rfl).cell 0
  have x6_1 : V10.cell? ⟨gc, 1, none⟩ = some (.string DC) := (HR.out.at (x := (gc, 23, #[.string NC, .string DC])) 6 rfl).cell 1
  have y6 : gc < V10.heap.size := (HR.out.at (x := (gc, 23, #[.string NC, .string DC])) 6 rfl).lt
  have x1_4 : V10.cell? ⟨n3, 4, none⟩ = some (.string P2) := (HR.out.at (x := (n3, 31, #[.string P0, .string PD0, .string P1, .string PD1, .string P2, .string PD2, .string P3, .string PD3])) 1 rfl).cell 4
  have x1_5 : V10.cell? ⟨n3, 5, none⟩ = some (.string PD2) := (HR.out.at (x := (n3, 31, #[.string P0, .string PD0, .string P1, .string PD1, .string P2, .string PD2, .string P3, .string PD3])) 1 rfl).cell 5
  have y1 : n3 < V10.heap.size := (HR.out.at (x := (n3, 31, #[.string P0, .string PD0, .string P1, .string PD1, .string P2, .string PD2, .string P3, .string PD3])) 1 rfl).lt
  have x3_4 : V10.cell? ⟨n1, 4, none⟩ = some (.string S2) := (HR.out.at (x := (n1, 31, #[.string S0, .string T0, .string S1, .string T1, .string S2, .string T2, .string S3, .string T3])) 3 rfl).cell 4
  have x3_5 : V10.cell? ⟨n1, 5, none⟩ = some (.string T2) := (HR.out.at (x := (n1, 31, #[.string S0, .string T0, .string S1, .string T1, .string S2, .string T2, .string S3, .string T3])) 3 rfl).cell 5
  have y3 : n1 < V10.heap.size := (HR.out.at (x := (n1, 31, #[.string S0, .string T0, .string S1, .string T1, .string S2, .string T2, .string S3, .string T3])) 3 rfl).lt
  go_upto_region 19 with (first | (go_at_call 39; (with_reducible refine Calls.mono (HCTW.out _ (HT.out.next HB.out)) ?_); rintro e w11 ⟨rfl, hb⟩; have hq := HR.out.below hb; clear x5_0 x5_1 y5 x6_0 x6_1 y6 x1_4 x1_5 y1 x3_4 x3_5 y3; have x5_0 : w11.cell? ⟨ga, 0, none⟩ = some (.string NA) := (hq.at (x := (ga, 23, #[.string NA, .string DA])) 5 rfl).cell 0; have x5_1 : w11.cell? ⟨ga, 1, none⟩ = some (.string DA) := (hq.at (x := (ga, 23, #[.string NA, .string DA])) 5 rfl).cell 1; have y5 : ga < w11.heap.size := (hq.at (x := (ga, 23, #[.string NA, .string DA])) 5 rfl).lt; have x6_0 : w11.cell? ⟨gc, 0, none⟩ = some (.string NC) := (hq.at (x := (gc, 23, #[.string NC, .string DC])) 6 rfl).cell 0; have x6_1 : w11.cell? ⟨gc, 1, none⟩ = some (.string DC) := (hq.at (x := (gc, 23, #[.string NC, .string DC])) 6 rfl).cell 1; have y6 : gc < w11.heap.size := (hq.at (x := (gc, 23, #[.string NC, .string DC])) 6 rfl).lt; have x3_4 : w11.cell? ⟨n1, 4, none⟩ = some (.string S2) := (hq.at (x := (n1, 31, #[.string S0, .string T0, .string S1, .string T1, .string S2, .string T2, .string S3, .string T3])) 3 rfl).cell 4; have x3_5 : w11.cell? ⟨n1, 5, none⟩ = some (.string T2) := (hq.at (x := (n1, 31, #[.string S0, .string T0, .string S1, .string T1, .string S2, .string T2, .string S3, .string T3])) 3 rfl).cell 5; have y3 : n1 < w11.heap.size := (hq.at (x := (n1, 31, #[.string S0, .string T0, .string S1, .string T1, .string S2, .string T2, .string S3, .string T3])) 3 rfl).lt; replace hq := hq.cons 23 #[.string W1s, .string W2s]; (try simp only [World.size_alloc] at hq); replace HR := Lib.hid hq; replace HB := Lib.hid (below_to (below_to HB.out hb) (new_below _ (.cells #[.string W1s, .string W2s] 23))); clear hb hq) | (go_at_call 39; (with_reducible refine Calls.mono (HCLE.out _ (HT.out.next HB.out)) ?_); rintro e w12 ⟨rfl, hb⟩; have hq := HR.out.below hb; clear x5_0 x5_1 y5 x6_0 x6_1 y6 x3_4 x3_5 y3; have x0_0 : w12.cell? ⟨w11.heap.size, 0, none⟩ = some (.string W1s) := (hq.at (x := (w11.heap.size, 23, #[.string W1s, .string W2s])) 0 rfl).cell 0; have x0_1 : w12.cell? ⟨w11.heap.size, 1, none⟩ = some (.string W2s) := (hq.at (x := (w11.heap.size, 23, #[.string W1s, .string W2s])) 0 rfl).cell 1; have y0 : w11.heap.size < w12.heap.size := (hq.at (x := (w11.heap.size, 23, #[.string W1s, .string W2s])) 0 rfl).lt; replace hq := hq.cons 23 #[.string L1s, .string L2s]; (try simp only [World.size_alloc] at hq); replace HR := Lib.hid hq; replace HB := Lib.hid (below_to (below_to HB.out hb) (new_below _ (.cells #[.string L1s, .string L2s] 23))); clear hb hq))
  obtain ⟨V12, hV12⟩ : ∃ W0, w12.alloc (.cells #[.string L1s, .string L2s] 23) = W0 := ⟨_, rfl⟩
  rw [hV12] at HR HB ⊢
  clear hV12
  clear x0_0 x0_1 y0
  have x0_0 : V12.cell? ⟨w12.heap.size, 0, none⟩ = some (.string L1s) := (HR.out.at (x := (w12.heap.size, 23, #[.string L1s, .string L2s])) 0 rfl).cell 0
  have x0_1 : V12.cell? ⟨w12.heap.size, 1, none⟩ = some (.string L2s) := (HR.out.at (x := (w12.heap.size, 23, #[.string L1s, .string L2s])) 0 rfl).cell 1
  have y0 : w12.heap.size < V12.heap.size := (HR.out.at (x := (w12.heap.size, 23, #[.string L1s, .string L2s])) 0 rfl).lt
  have x1_0 : V12.cell? ⟨w11.heap.size, 0, none⟩ = some (.string W1s) := (HR.out.at (x := (w11.heap.size, 23, #[.string W1s, .string W2s])) 1 rfl).cell 0
  have x1_1 : V12.cell? ⟨w11.heap.size, 1, none⟩ = some (.string W2s) := (HR.out.at (x := (w11.heap.size, 23, #[.string W1s, .string W2s])) 1 rfl).cell 1
  have y1 : w11.heap.size < V12.heap.size := (HR.out.at (x := (w11.heap.size, 23, #[.string W1s, .string W2s])) 1 rfl).lt
  have x4_2 : V12.cell? ⟨n1 + 1, 2, none⟩ = some (.int .i64 e2) := (HR.out.at (x := (n1 + 1, 33, #[.int .i64 e0, .int .i64 e1, .int .i64 e2, .int .i64 e3])) 4 rfl).cell 2
  have y4 : n1 + 1 < V12.heap.size := (HR.out.at (x := (n1 + 1, 33, #[.int .i64 e0, .int .i64 e1, .int .i64 e2, .int .i64 e3])) 4 rfl).lt
  have x2_2 : V12.cell? ⟨n3 + 1, 2, none⟩ = some (.int .i64 g2) := (HR.out.at (x := (n3 + 1, 33, #[.int .i64 g0, .int .i64 g1, .int .i64 g2, .int .i64 g3])) 2 rfl).cell 2
  have y2 : n3 + 1 < V12.heap.size := (HR.out.at (x := (n3 + 1, 33, #[.int .i64 g0, .int .i64 g1, .int .i64 g2, .int .i64 g3])) 2 rfl).lt
  go_cut [186] (fun s wx => s = .bool false ∧ V12 = wx)
  case first =>
    by_cases hf_e2 : e2 = 0
    · have hb_e2 : (e2 == 0) = true := beq_iff_eq.2 hf_e2
      replace hf_e2 := Lib.hid hf_e2
      by_cases hf_g2 : g2 = 0
      · have hb_g2 : (g2 == 0) = true := beq_iff_eq.2 hf_g2
        replace hf_g2 := Lib.hid hf_g2
        by_cases hf_j1 : j1 = 0
        · have hb_j1 : (j1 == 0) = true := beq_iff_eq.2 hf_j1
          replace hf_j1 := Lib.hid hf_j1
          by_cases hf_k1 : k1 = 0
          · have hb_k1 : (k1 == 0) = true := beq_iff_eq.2 hf_k1
            replace hf_k1 := Lib.hid hf_k1
            obtain ⟨rfl, rfl⟩ := HQ2.out hf_e2.out hf_g2.out hf_j1.out hf_k1.out
            go_wp2_with fail
            go_meet
            exact ⟨rfl, rfl⟩
          · have hb_k1 : (k1 == 0) = false := beq_eq_false_iff_ne.2 hf_k1
            have hn_k1 : (k1 != 0) = true := bne_iff_ne.2 hf_k1
            clear hf_k1
            go_wp2_with fail
            go_meet
            exact ⟨rfl, rfl⟩
        · have hb_j1 : (j1 == 0) = false := beq_eq_false_iff_ne.2 hf_j1
          have hn_j1 : (j1 != 0) = true := bne_iff_ne.2 hf_j1
          clear hf_j1
          go_wp2_with fail
          go_meet
          exact ⟨rfl, rfl⟩
      · have hb_g2 : (g2 == 0) = false := beq_eq_false_iff_ne.2 hf_g2
        have hn_g2 : (g2 != 0) = true := bne_iff_ne.2 hf_g2
        clear hf_g2
        go_wp2_with fail
        go_meet
        exact ⟨rfl, rfl⟩
    · have hb_e2 : (e2 == 0) = false := beq_eq_false_iff_ne.2 hf_e2
      have hn_e2 : (e2 != 0) = true := bne_iff_ne.2 hf_e2
      clear hf_e2
      go_wp2_with fail
      go_meet
      exact ⟨rfl, rfl⟩
  case rest =>
    obtain ⟨rfl, rfl⟩ := hcut
    replace HR : Hid (Rws _ [(n3 + 1, 33, #[.int .i64 g0, .int .i64 g1, .int .i64 g2, .int .i64 g3]), (n3, 31, #[.string P0, .string PD0, .string P1, .string PD1, .string P2, .string PD2, .string P3, .string PD3]), (n1 + 1, 33, #[.int .i64 e0, .int .i64 e1, .int .i64 e2, .int .i64 e3]), (n1, 31, #[.string S0, .string T0, .string S1, .string T1, .string S2, .string T2, .string S3, .string T3]), (gb, 23, #[.string NB, .string DB]), (ga, 23, #[.string NA, .string DA]), (gc, 23, #[.string NC, .string DC])]) := Lib.hid (HR.out.pick [2, 3, 4, 5, 6, 7, 8])
    rename_i K1 hK1 K2 hK2
    have HK1 := Lib.hid hK1
    clear hK1
    refine hK2 _ _ ?_
    clear hK2
    go_wp2_with fail
    refine HK1.out _ _ ?_
    exact field_tail2 NA DA NB DB NC DC S0 T0 S1 T1 S2 T2 S3 T3 P0 PD0 P1 PD1 P2 PD2 P3 PD3 H2 J2 A1s A2s M1s M2s K1s K2s N1s N2s e0 e1 e2 e3 g0 g1 g2 g3 h2 l1 m1 o1 p1 w V12 ga gb gc n1 n3 HCAC.out HCSU.out HCWH.out HCBA.out HCAG.out HQ3.out HQ4.out HQ5.out HT.out HB.out HR.out _ _ _ _ _ _ _ _ _ _ _ _ _ _ _ _ _ _ _ _ _ _ _ _ _ _ _ _ _ _ _ _ _ _ _ _ _ _ _ _ _ _ _ _ _ _ _ _ _ _ _ _ _ _ _ _ _ _ _ _ _ _ _ _ _ _ _ _ _ _ _ _ _ _ _ _ _ _ _ _ _ _ _ _ _ _ _ _ _ _ _ _ _ _ _ _ _ _ _ _ _ _ _ _ _ _ _ _ _ _ _ _ _ _ _ _ _ _ _ _ _ _ _ _ _ _ _ _ _ _ _ _ _ _ _ _ _ _ _ _ _ _ _ _ _ _ _ _ _ _ _ _ _ _ _ _ _ _ _ _ _ _ _ _ _ _ _ _ _ _ _ _ _ _ _ _ _ _ _ _ _ _ _ _ _ _ _ _ _ _ _ _ _ _ _ _ _ _ _ _ _ _ _ _ _ _ _ _ _ _ _ _ _ _ _ _ _ _ _ _ _ _ _ _ _ _ _ _ _ _ _ _ _ _ _ _ _ _ _ _ _ _ _ _ _ _ _ _ _ _ _ _ _ _ _ _ _ _ _ _ _ _ _ _ _ _
end Go.Proofs.YtabkodpjhpjgnaaGreatDoor
