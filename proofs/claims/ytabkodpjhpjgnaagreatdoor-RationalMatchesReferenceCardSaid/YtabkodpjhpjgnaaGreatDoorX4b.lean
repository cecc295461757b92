/- RationalField between its first test and its products. -/
import Derived.Test.YtabkodpjhpjgnaaGreatDoorX4d
namespace Go.Proofs.YtabkodpjhpjgnaaGreatDoor
open Go.RowKit Go.Shelf

noncomputable def fieldT1 : Code := (Tryz.f6.body.bind (fromRegion 12)).getD .skip
set_option maxRecDepth 100000 in
set_option maxHeartbeats 16000000 in
theorem field_tail1 (NA DA NB DB NC DC S0 T0 S1 T1 S2 T2 S3 T3 P0 PD0 P1 PD1 P2 PD2 P3 PD3 H0 J0 H1 J1 H2 J2 H3 J3 O1s O2s W1s W2s L1s L2s A1s A2s M1s M2s K1s K2s N1s N2s : ByteArray) (e0 e1 e2 e3 g0 g1 g2 g3 h0 h1 h2 h3 i1 j1 k1 l1 m1 o1 p1 : Int) (w V7 : World) (ga gb gc n1 : Nat)
    (CF3 : CallT 15 #[rvB NB DB, rvB NC DC] (.tuple #[fourR P0 PD0 P1 PD1 P2 PD2 P3 PD3, fourE g0 g1 g2 g3]))
    (CF4 : CallT 15 #[rvB S0 T0, rvB NC DC] (.tuple #[fourR H0 J0 H1 J1 H2 J2 H3 J3, fourE h0 h1 h2 h3]))
    (CO : CallT 38 #[rvB NA DA, rvB P0 PD0] (.tuple #[rvB O1s O2s, .int .i64 i1]))
    (CTW : CallT 39 #[rvB NA DA, rvB P2 PD2] (.tuple #[rvB W1s W2s, .int .i64 j1]))
    (CLE : CallT 39 #[rvB S2 T2, rvB NC DC] (.tuple #[rvB L1s L2s, .int .i64 k1]))
    (CAC : CallT 39 #[rvB NA DA, rvB NC DC] (.tuple #[rvB A1s A2s, .int .i64 l1]))
    (CSU : CallT 38 #[rvB A1s A2s, rvB P2 PD2] (.tuple #[rvB M1s M2s, .int .i64 m1]))
    (CWH : CallT 39 #[rvB S0 T0, rvB NC DC] (.tuple #[rvB H2 J2, .int .i64 h2]))
    (CBA : CallT 40 #[rvB S0 T0, rvB NB DB] (.tuple #[rvB K1s K2s, .int .i64 o1]))
    (CAG : CallT 39 #[rvB S3 T3, rvB NB DB] (.tuple #[rvB N1s N2s, .int .i64 p1]))
    (Q1 : e0 = 0 → g0 = 0 → h0 = 0 → i1 = 0 → O1s = H0 ∧ O2s = J0)
    (Q2 : e2 = 0 → g2 = 0 → j1 = 0 → k1 = 0 → W1s = L1s ∧ W2s = L2s)
    (Q3 : e0 = 0 → l1 = 0 → g2 = 0 → m1 = 0 → h2 = 0 → M1s = H2 ∧ M2s = J2)
    (Q4 : e0 = 0 → o1 = 0 → K1s = NA ∧ K2s = DA)
    (Q5 : e3 = 0 → p1 = 0 → N1s = NA ∧ N2s = DA)
    (ht : TabP w) (hb : Below w.heap.size w V7) (hr : Rws V7 [(n1 + 1, 33, #[.int .i64 e0, .int .i64 e1, .int .i64 e2, .int .i64 e3]), (n1, 31, #[.string S0, .string T0, .string S1, .string T1, .string S2, .string T2, .string S3, .string T3]), (gb, 23, #[.string NB, .string DB]), (ga, 23, #[.string NA, .string DA]), (gc, 23, #[.string NC, .string DC])]) (v0 v1 v2 v3 v4 v5 v6 v7 v15 v16 v17 v18 v19 v20 v21 v22 v23 v24 v25 v26 v27 v28 v29 v30 v31 v32 v33 v34 v35 v36 v37 v38 v39 v40 v41 v42 v43 v44 v45 v46 v47 v48 v49 v50 v51 v52 v53 v54 v55 v56 v57 v58 v59 v60 v61 v62 v63 v64 v65 v66 v67 v68 v69 v70 v71 v72 v73 v74 v75 v76 v77 v78 v79 v80 v81 v82 v83 v84 v85 v86 v87 v88 v89 v90 v91 v92 v93 v94 v95 v96 v97 v98 v99 v100 v101 v102 v103 v104 v105 v106 v107 v108 v109 v110 v111 v112 v113 v114 v115 v116 v117 v118 v119 v120 v121 v122 v123 v124 v125 v126 v127 v128 v129 v130 v131 v132 v133 v134 v135 v136 v137 v138 v139 v140 v141 v142 v143 v144 v145 v146 v147 v148 v149 v150 v151 v152 v153 v154 v155 v156 v157 v158 v159 v160 v161 v162 v163 v164 v165 v166 v167 v168 v169 v170 v171 v172 v173 v174 v175 v176 v177 v178 v179 v180 v181 v182 v183 v184 v185 v186 v187 v188 v189 v190 v191 v192 v193 v194 v195 v196 v197 v198 v199 v200 v201 v202 v203 v204 v205 v206 v207 v208 v209 v210 v211 v212 v213 v214 v215 v216 v217 v218 v219 v220 v221 v222 v223 v224 v225 v226 v227 v228 v229 v230 v231 v232 v233 v234 v235 v236 v237 v238 v239 v240 v241 v242 v243 v244 v245 v246 v247 v248 v249 v250 v251 v252 v253 v254 v255 v256 v257 v258 v259 v260 v261 v262 v263 v264 v265 v266 v267 v268 v269 v270 v271 v272 v273 v274 : Value) :
    Code.wp Tryz.prog fieldT1 (bodyPost Tryz.prog Tryz.f6 fun e w' => e = .returned (.bool true) ∧ Below w.heap.size w w') ⟨#[v0, v1, v2, v3, v4, v5, v6, v7, .bool false, .bool true, .pointer (some ⟨ga, 0, none⟩), .pointer (some ⟨gb, 0, none⟩), .pointer (some ⟨gc, 0, none⟩), .pointer (some ⟨n1, 0, none⟩), .pointer (some ⟨n1 + 1, 0, none⟩), v15, v16, v17, v18, v19, v20, v21, v22, v23, v24, v25, v26, v27, v28, v29, v30, v31, v32, v33, v34, v35, v36, v37, v38, v39, v40, v41, v42, v43, v44, v45, v46, v47, v48, v49, v50, v51, v52, v53, v54, v55, v56, v57, v58, v59, v60, v61, v62, v63, v64, v65, v66, v67, v68, v69, v70, v71, v72, v73, v74, v75, v76, v77, v78, v79, v80, v81, v82, v83, v84, v85, v86, v87, v88, v89, v90, v91, v92, v93, v94, v95, v96, v97, v98, v99, v100, v101, v102, v103, v104, v105, v106, v107, v108, v109, v110, v111, v112, v113, v114, v115, v116, v117, v118, v119, v120, v121, v122, v123, v124, v125, v126, v127, v128, v129, v130, v131, v132, v133, v134, v135, v136, v137, v138, v139, v140, v141, v142, v143, v144, v145, v146, v147, v148, v149, v150, v151, v152, v153, v154, v155, v156, v157, v158, v159, v160, v161, v162, v163, v164, v165, v166, v167, v168, v169, v170, v171, v172, v173, v174, v175, v176, v177, v178, v179, v180, v181, v182, v183, v184, v185, v186, v187, v188, v189, v190, v191, v192, v193, v194, v195, v196, v197, v198, v199, v200, v201, v202, v203, v204, v205, v206, v207, v208, v209, v210, v211, v212, v213, v214, v215, v216, v217, v218, v219, v220, v221, v222, v223, v224, v225, v226, v227, v228, v229, v230, v231, v232, v233, v234, v235, v236, v237, v238, v239, v240, v241, v242, v243, v244, v245, v246, v247, v248, v249, v250, v251, v252, v253, v254, v255, v256, v257, v258, v259, v260, v261, v262, v263, v264, v265, v266, v267, v268, v269, v270, v271, v272, v273, v274], []⟩ V7 := by
  have HCF3 := Lib.hid CF3
  have HCF4 := Lib.hid CF4
  have HCO := Lib.hid CO
  have HCTW := Lib.hid CTW
  have HCLE := Lib.hid CLE
  have HCAC := Lib.hid CAC
  have HCSU := Lib.hid CSU
  have HCWH := Lib.hid CWH
  have HCBA := Lib.hid CBA
  have HCAG := Lib.hid CAG
  have HQ1 := Lib.hid Q1
  have HQ2 := Lib.hid Q2
  have HQ3 := Lib.hid Q3
  have HQ4 := Lib.hid Q4
  have HQ5 := Lib.hid Q5
  have HT := Lib.hid ht; have HB := Lib.hid hb; have HR := Lib.hid hr
  clear ht hb hr CF3 CF4 CO CTW CLE CAC CSU CWH CBA CAG Q1 Q2 Q3 Q4 Q5
  unfold rvB fourR fourE at *
  conv => arg 2; whnf
  have x3_0 : V7.cell? ⟨ga, 0, none⟩ = some (.string NA) := (HR.out.at (x := (ga, 23, #[.string NA, .string DA])) 3 rfl).cell 0
  have x3_1 : V7.cell? ⟨ga, 1, none⟩ = some (.string DA) := (HR.out.at (x := (ga, 23, #[.string NA, .string DA])) 3 rfl).cell 1
  have y3 : ga < V7.heap.size := (HR.out.at (x := (ga, 23, #[.string NA, .string DA])) 3 rfl).lt
  have x2_0 : V7.cell? ⟨gb, 0, none⟩ = some (.string NB) := (HR.out.at (x := (gb, 23, #[.string NB, .string DB])) 2 rfl).cell 0
  have x2_1 : V7.cell? ⟨gb, 1, none⟩ = some (.string DB) := (HR.out.at (x := (gb, 23, #[.string NB, .string DB])) 2 rfl).cell 1
  have y2 : gb < V7.heap.size := (HR.out.at (x := (gb, 23, #[.string NB, .string DB])) 2 rfl).lt
  have x4_0 : V7.cell? ⟨gc, 0, none⟩ = some (.string NC) := (HR.out.at (x := (gc, 23, #[.string NC, .string DC])) 4 rfl).cell 0
  have x4_1 : V7.cell? ⟨gc, 1, none⟩ = some (.string DC) := (HR.out.at (x := (gc, 23, #[.string NC, .string DC])) 4 rfl).cell 1
  have y4 : gc < V7.heap.size := (HR.out.at (x := (gc, 23, #[.string NC, .string DC])) 4 rfl).lt
  have x1_0 : V7.cell? ⟨n1, 0, none⟩ = some (.string S0) := (HR.out.at (x := (n1, 31, #[.string S0, .string T0, .string S1, .string T1, .string S2, .string T2, .string S3, .string T3])) 1 rfl).cell 0
  have x1_1 : V7.cell? ⟨n1, 1, none⟩ = some (.string T0) := (HR.out.at (x := (n1, 31, #[.string S0, .string T0, .string S1, .string T1, .string S2, .string T2, .string S3, .string T3])) 1 rfl).cell 1
  have y1 : n1 < V7.heap.size := (HR.out.at (x := (n1, 31, #[.string S0, .string T0, .string S1, .string T1, .string S2, .string T2, .string S3, .string T3])) 1 rfl).lt
  go_upto_region 14 with (first | (go_at_call 15; (with_reducible refine Calls.mono (HCF3.out _ (HT.out.next HB.out)) ?_); rintro e w8 ⟨rfl, hb⟩; have hq := HR.out.below hb; clear x3_0 x3_1 y3 x2_0 x2_1 y2 x4_0 x4_1 y4 x1_0 x1_1 y1; have x2_0 : w8.cell? ⟨gb, 0, none⟩ = some (.string NB) := (hq.at (x := (gb, 23, #[.string NB, .string DB])) 2 rfl).cell 0; have x2_1 : w8.cell? ⟨gb, 1, none⟩ = some (.string DB) := (hq.at (x := (gb, 23, #[.string NB, .string DB])) 2 rfl).cell 1; have y2 : gb < w8.heap.size := (hq.at (x := (gb, 23, #[.string NB, .string DB])) 2 rfl).lt; have x4_0 : w8.cell? ⟨gc, 0, none⟩ = some (.string NC) := (hq.at (x := (gc, 23, #[.string NC, .string DC])) 4 rfl).cell 0; have x4_1 : w8.cell? ⟨gc, 1, none⟩ = some (.string DC) := (hq.at (x := (gc, 23, #[.string NC, .string DC])) 4 rfl).cell 1; have y4 : gc < w8.heap.size := (hq.at (x := (gc, 23, #[.string NC, .string DC])) 4 rfl).lt; have x3_0 : w8.cell? ⟨ga, 0, none⟩ = some (.string NA) := (hq.at (x := (ga, 23, #[.string NA, .string DA])) 3 rfl).cell 0; have x3_1 : w8.cell? ⟨ga, 1, none⟩ = some (.string DA) := (hq.at (x := (ga, 23, #[.string NA, .string DA])) 3 rfl).cell 1; have y3 : ga < w8.heap.size := (hq.at (x := (ga, 23, #[.string NA, .string DA])) 3 rfl).lt; have x1_0 : w8.cell? ⟨n1, 0, none⟩ = some (.string S0) := (hq.at (x := (n1, 31, #[.string S0, .string T0, .string S1, .string T1, .string S2, .string T2, .string S3, .string T3])) 1 rfl).cell 0; have x1_1 : w8.cell? ⟨n1, 1, none⟩ = some (.string T0) := (hq.at (x := (n1, 31, #[.string S0, .string T0, .string S1, .string T1, .string S2, .string T2, .string S3, .string T3])) 1 rfl).cell 1; have y1 : n1 < w8.heap.size := (hq.at (x := (n1, 31, #[.string S0, .string T0, .string S1, .string T1, .string S2, .string T2, .string S3, .string T3])) 1 rfl).lt; replace hq := hq.cons 31 #[.string P0, .string PD0, .string P1, .string PD1, .string P2, .string PD2, .string P3, .string PD3]; replace hq := hq.cons 33 #[.int .i64 g0, .int .i64 g1, .int .i64 g2, .int .i64 g3]; (try simp only [World.size_alloc] at hq); replace HR := Lib.hid hq; replace HB := Lib.hid (below_to (below_to (below_to HB.out hb) (new_below _ (.cells #[.string P0, .string PD0, .string P1, .string PD1, .string P2, .string PD2, .string P3, .string PD3] 31))) (new_below _ (.cells #[.int .i64 g0, .int .i64 g1, .int .i64 g2, .int .i64 g3] 33))); clear hb hq) | (go_at_call 15; (with_reducible refine Calls.mono (HCF4.out _ (HT.out.next HB.out)) ?_); rintro e w9 ⟨rfl, hb⟩; have hq := HR.out.below hb; clear x2_0 x2_1 y2 x4_0 x4_1 y4 x3_0 x3_1 y3 x1_0 x1_1 y1; have x4_0 : w9.cell? ⟨gb, 0, none⟩ = some (.string NB) := (hq.at (x := (gb, 23, #[.string NB, .string DB])) 4 rfl).cell 0; have x4_1 : w9.cell? ⟨gb, 1, none⟩ = some (.string DB) := (hq.at (x := (gb, 23, #[.string NB, .string DB])) 4 rfl).cell 1; have y4 : gb < w9.heap.size := (hq.at (x := (gb, 23, #[.string NB, .string DB])) 4 rfl).lt; have x6_0 : w9.cell? ⟨gc, 0, none⟩ = some (.string NC) := (hq.at (x := (gc, 23, #[.string NC, .string DC])) 6 rfl).cell 0; have x6_1 : w9.cell? ⟨gc, 1, none⟩ = some (.string DC) := (hq.at (x := (gc, 23, #[.string NC, .string DC])) 6 rfl).cell 1; have y6 : gc < w9.heap.size := (hq.at (x := (gc, 23, #[.string NC, .string DC])) 6 rfl).lt; have x5_0 : w9.cell? ⟨ga, 0, none⟩ = some (.string NA) := (hq.at (x := (ga, 23, #[.string NA, .string DA])) 5 rfl).cell 0; have x5_1 : w9.cell? ⟨ga, 1, none⟩ = some (.string DA) := (hq.at (x := (ga, 23, #[.string NA, .string DA])) 5 rfl).cell 1; have y5 : ga < w9.heap.size := (hq.at (x := (ga, 23, #[.string NA, .string DA])) 5 rfl).lt; have x3_0 : w9.cell? ⟨n1, 0, none⟩ = some (.string S0) := (hq.at (x := (n1, 31, #[.string S0, .string T0, .string S1, .string T1, .string S2, .string T2, .string S3, .string T3])) 3 rfl).cell 0; have x3_1 : w9.cell? ⟨n1, 1, none⟩ = some (.string T0) := (hq.at (x := (n1, 31, #[.string S0, .string T0, .string S1, .string T1, .string S2, .string T2, .string S3, .string T3])) 3 rfl).cell 1; have y3 : n1 < w9.heap.size := (hq.at (x := (n1, 31, #[.string S0, .string T0, .string S1, .string T1, .string S2, .string T2, .string S3, .string T3])) 3 rfl).lt; have x1_0 : w9.cell? ⟨w8.heap.size, 0, none⟩ = some (.string P0) := (hq.at (x := (w8.heap.size, 31, #[.string P0, .string PD0, .string P1, .string PD1, .string P2, .string PD2, .string P3, .string PD3])) 1 rfl).cell 0; have x1_1 : w9.cell? ⟨w8.heap.size, 1, none⟩ = some (.string PD0) := (hq.at (x := (w8.heap.size, 31, #[.string P0, .string PD0, .string P1, .string PD1, .string P2, .string PD2, .string P3, .string PD3])) 1 rfl).cell 1; have y1 : w8.heap.size < w9.heap.size := (hq.at (x := (w8.heap.size, 31, #[.string P0, .string PD0, .string P1, .string PD1, .string P2, .string PD2, .string P3, .string PD3])) 1 rfl).lt; replace hq := hq.cons 31 #[.string H0, .string J0, .string H1, .string J1, .string H2, .string J2, .string H3, .string J3]; replace hq := hq.cons 33 #[.int .i64 h0, .int .i64 h1, .int .i64 h2, .int .i64 h3]; (try simp only [World.size_alloc] at hq); replace HR := Lib.hid hq; replace HB := Lib.hid (below_to (below_to (below_to HB.out hb) (new_below _ (.cells #[.string H0, .string J0, .string H1, .string J1, .string H2, .string J2, .string H3, .string J3] 31))) (new_below _ (.cells #[.int .i64 h0, .int .i64 h1, .int .i64 h2, .int .i64 h3] 33))); clear hb hq))
  obtain ⟨V9, hV9⟩ : ∃ W0, (w9.alloc (.cells #[.string H0, .string J0, .string H1, .string J1, .string H2, .string J2, .string H3, .string J3] 31)).alloc (.cells #[.int .i64 h0, .int .i64 h1, .int .i64 h2, .int .i64 h3] 33) = W0 := ⟨_, rfl⟩
  rw [hV9] at HR HB ⊢
  clear hV9
  clear x4_0 x4_1 y4 x6_0 x6_1 y6 x5_0 x5_1 y5 x3_0 x3_1 y3 x1_0 x1_1 y1
  have x7_0 : V9.cell? ⟨ga, 0, none⟩ = some (.string NA) := (HR.out.at (x := (ga, 23, #[.string NA, .string DA])) 7 rfl).cell 0
  have x7_1 : V9.cell? ⟨ga, 1, none⟩ = some (.string DA) := (HR.out.at (x := (ga, 23, #[.string NA, .string DA])) 7 rfl).cell 1
  have y7 : ga < V9.heap.size := (HR.out.at (x := (ga, 23, #[.string NA, .string DA])) 7 rfl).lt
  have x3_0 : V9.cell? ⟨w8.heap.size, 0, none⟩ = some (.string P0) := (HR.out.at (x := (w8.heap.size, 31, #[.string P0, .string PD0, .string P1, .string PD1, .string P2, .string PD2, .string P3, .string PD3])) 3 rfl).cell 0
  have x3_1 : V9.cell? ⟨w8.heap.size, 1, none⟩ = some (.string PD0) := (HR.out.at (x := (w8.heap.size, 31, #[.string P0, .string PD0, .string P1, .string PD1, .string P2, .string PD2, .string P3, .string PD3])) 3 rfl).cell 1
  have y3 : w8.heap.size < V9.heap.size := (HR.out.at (x := (w8.heap.size, 31, #[.string P0, .string PD0, .string P1, .string PD1, .string P2, .string PD2, .string P3, .string PD3])) 3 rfl).lt
  go_upto_region 15 with (first | (go_at_call 38; (with_reducible refine Calls.mono (HCO.out _ (HT.out.next HB.out)) ?_); rintro e w10 ⟨rfl, hb⟩; have hq := HR.out.below hb; clear x7_0 x7_1 y7 x3_0 x3_1 y3; have x7_0 : w10.cell? ⟨ga, 0, none⟩ = some (.string NA) := (hq.at (x := (ga, 23, #[.string NA, .string DA])) 7 rfl).cell 0; have x7_1 : w10.cell? ⟨ga, 1, none⟩ = some (.string DA) := (hq.at (x := (ga, 23, #[.string NA, .string DA])) 7 rfl).cell 1; have y7 : ga < w10.heap.size := (hq.at (x := (ga, 23, #[.string NA, .string DA])) 7 rfl).lt; replace hq := hq.cons 23 #[.string O1s, .string O2s]; (try simp only [World.size_alloc] at hq); replace HR := Lib.hid hq; replace HB := Lib.hid (below_to (below_to HB.out hb) (new_below _ (.cells #[.string O1s, .string O2s] 23))); clear hb hq))
  obtain ⟨V10, hV10⟩ : ∃ W0, w10.alloc (.cells #[.string O1s, .string O2s] 23) = W0 := ⟨_, rfl⟩
  rw [hV10] at HR HB ⊢
  clear hV10
  clear x7_0 x7_1 y7
  have x0_0 : V10.cell? ⟨w10.heap.size, 0, none⟩ = some (.string O1s) := (HR.out.at (x := (w10.heap.size, 23, #[.string O1s, .string O2s])) 0 rfl).cell 0
  have x0_1 : V10.cell? ⟨w10.heap.size, 1, none⟩ = some (.string O2s) := (HR.out.at (x := (w10.heap.size, 23, #[.string O1s, .string O2s])) 0 rfl).cell 1
  have y0 : w10.heap.size < V10.heap.size := (HR.out.at (x := (w10.heap.size, 23, #[.string O1s, .string O2s])) 0 rfl).lt
  have x2_0 : V10.cell? ⟨w9.heap.size, 0, none⟩ = some (.string H0) := (HR.out.at (x := (w9.heap.size, 31, #[.string H0, .string J0, .string H1, .string J1, .string H2, .string J2, .string H3, .string J3])) 2 rfl).cell 0
  have x2_1 : V10.cell? ⟨w9.heap.size, 1, none⟩ = some (.string J0) := (HR.out.at (x := (w9.heap.size, 31, #[.string H0, .string J0, .string H1, .string J1, .string H2, .string J2, .string H3, .string J3])) 2 rfl).cell 1
  have y2 : w9.heap.size < V10.heap.size := (HR.out.at (x := (w9.heap.size, 31, #[.string H0, .string J0, .string H1, .string J1, .string H2, .string J2, .string H3, .string J3])) 2 rfl).lt
  have x5_0 : V10.cell? ⟨n1 + 1, 0, none⟩ = some (.int .i64 e0) := (HR.out.at (x := (n1 + 1, 33, #[.int .i64 e0, .int .i64 e1, .int .i64 e2, .int .i64 e3])) 5 rfl).cell 0
  have y5 : n1 + 1 < V10.heap.size := (HR.out.at (x := (n1 + 1, 33, #[.int .i64 e0, .int .i64 e1, .int .i64 e2, .int .i64 e3])) 5 rfl).lt
  have x3_0 : V10.cell? ⟨w8.heap.size + 1, 0, none⟩ = some (.int .i64 g0) := (HR.out.at (x := (w8.heap.size + 1, 33, #[.int .i64 g0, .int .i64 g1, .int .i64 g2, .int .i64 g3])) 3 rfl).cell 0
  have y3 : w8.heap.size + 1 < V10.heap.size := (HR.out.at (x := (w8.heap.size + 1, 33, #[.int .i64 g0, .int .i64 g1, .int .i64 g2, .int .i64 g3])) 3 rfl).lt
  have x1_0 : V10.cell? ⟨w9.heap.size + 1, 0, none⟩ = some (.int .i64 h0) := (HR.out.at (x := (w9.heap.size + 1, 33, #[.int .i64 h0, .int .i64 h1, .int .i64 h2, .int .i64 h3])) 1 rfl).cell 0
  have y1 : w9.heap.size + 1 < V10.heap.size := (HR.out.at (x := (w9.heap.size + 1, 33, #[.int .i64 h0, .int .i64 h1, .int .i64 h2, .int .i64 h3])) 1 rfl).lt
  go_cut [151] (fun s wx => s = .bool false ∧ V10 = wx)
  case first =>
    by_cases hf_e0 : e0 = 0
    · have hb_e0 : (e0 == 0) = true := beq_iff_eq.2 hf_e0
      replace hf_e0 := Lib.hid hf_e0
      by_cases hf_g0 : g0 = 0
      · have hb_g0 : (g0 == 0) = true := beq_iff_eq.2 hf_g0
        replace hf_g0 := Lib.hid hf_g0
        by_cases hf_h0 : h0 = 0
        · have hb_h0 : (h0 == 0) = true := beq_iff_eq.2 hf_h0
          replace hf_h0 := Lib.hid hf_h0
          by_cases hf_i1 : i1 = 0
          · have hb_i1 : (i1 == 0) = true := beq_iff_eq.2 hf_i1
            replace hf_i1 := Lib.hid hf_i1
            obtain ⟨rfl, rfl⟩ := HQ1.out hf_e0.out hf_g0.out hf_h0.out hf_i1.out
            go_wp2_with fail
            go_meet
            exact ⟨rfl, rfl⟩
          · have hb_i1 : (i1 == 0) = false := beq_eq_false_iff_ne.2 hf_i1
            have hn_i1 : (i1 != 0) = true := bne_iff_ne.2 hf_i1
            clear hf_i1
            go_wp2_with fail
            go_meet
            exact ⟨rfl, rfl⟩
        · have hb_h0 : (h0 == 0) = false := beq_eq_false_iff_ne.2 hf_h0
          have hn_h0 : (h0 != 0) = true := bne_iff_ne.2 hf_h0
          clear hf_h0
          go_wp2_with fail
          go_meet
          exact ⟨rfl, rfl⟩
      · have hb_g0 : (g0 == 0) = false := beq_eq_false_iff_ne.2 hf_g0
        have hn_g0 : (g0 != 0) = true := bne_iff_ne.2 hf_g0
        clear hf_g0
        go_wp2_with fail
        go_meet
        exact ⟨rfl, rfl⟩
    · have hb_e0 : (e0 == 0) = false := beq_eq_false_iff_ne.2 hf_e0
      have hn_e0 : (e0 != 0) = true := bne_iff_ne.2 hf_e0
      clear hf_e0
      go_wp2_with fail
      go_meet
      exact ⟨rfl, rfl⟩
  case rest =>
    obtain ⟨rfl, rfl⟩ := hcut
    replace HR : Hid (Rws _ [(w8.heap.size + 1, 33, #[.int .i64 g0, .int .i64 g1, .int .i64 g2, .int .i64 g3]), (w8.heap.size, 31, #[.string P0, .string PD0, .string P1, .string PD1, .string P2, .string PD2, .string P3, .string PD3]), (n1 + 1, 33, #[.int .i64 e0, .int .i64 e1, .int .i64 e2, .int .i64 e3]), (n1, 31, #[.string S0, .string T0, .string S1, .string T1, .string S2, .string T2, .string S3, .string T3]), (gb, 23, #[.string NB, .string DB]), (ga, 23, #[.string NA, .string DA]), (gc, 23, #[.string NC, .string DC])]) := Lib.hid (HR.out.pick [3, 4, 5, 6, 7, 8, 9])
    rename_i K1 hK1 K2 hK2
    have HK1 := Lib.hid hK1
    clear hK1
    refine hK2 _ _ ?_
    clear hK2
    go_wp2_with fail
    refine HK1.out _ _ ?_
    exact field_tail3 NA DA NB DB NC DC S0 T0 S1 T1 S2 T2 S3 T3 P0 PD0 P1 PD1 P2 PD2 P3 PD3 H2 J2 W1s W2s L1s L2s A1s A2s M1s M2s K1s K2s N1s N2s e0 e1 e2 e3 g0 g1 g2 g3 h2 j1 k1 l1 m1 o1 p1 w V10 ga gb gc n1 w8.heap.size HCTW.out HCLE.out HCAC.out HCSU.out HCWH.out HCBA.out HCAG.out HQ2.out HQ3.out HQ4.out HQ5.out HT.out HB.out HR.out _ _ _ _ _ _ _ _ _ _ _ _ _ _ _ _ _ _ _ _ _ _ _ _ _ _ _ _ _ _ _ _ _ _ _ _ _ _ _ _ _ _ _ _ _ _ _ _ _ _ _ _ _ _ _ _ _ _ _ _ _ _ _ _ _ _ _ _ _ _ _ _ _ _ _ _ _ _ _ _ _ _ _ _ _ _ _ _ _ _ _ _ _ _ _ _ _ _ _ _ _ _ _ _ _ _ _ _ _ _ _ _ _ _ _ _ _ _ _ _ _ _ _ _ _ _ _ _ _ _ _ _ _ _ _ _ _ _ _ _ _ _ _ _ _ _ _ _ _ _ _ _ _ _ _ _ _ _ _ _ _ _ _ _ _ _ _ _ _ _ _ _ _ _ _ _ _ _ _ _ _ _ _ _ _ _ _ _ _ _ _ _ _ _ _ _ _ _ _ _ _ _ _ _ _ _ _ _ _ _ _ _ _ _ _ _ _ _ _ _ _ _ _ _ _ _ _ _ _ _ _ _ _ _ _ _ _ _ _ _ _ _ _ _ _ _ _ _ _ _ _ _ _ _ _ _ _ _ _ _ _ _ _ _ _ _
end Go.Proofs.YtabkodpjhpjgnaaGreatDoor
