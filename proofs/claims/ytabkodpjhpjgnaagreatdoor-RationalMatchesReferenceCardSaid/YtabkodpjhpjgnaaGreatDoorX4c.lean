/- RationalField from its sums of products on. -/
import Derived.Test.YtabkodpjhpjgnaaGreatDoorX2
import Derived.Test.YtabkodpjhpjgnaaGreatDoorQx
namespace Go.Proofs.YtabkodpjhpjgnaaGreatDoor
open Go.RowKit Go.Shelf

/-- Rows of memory, each with its cells. -/
def Rws (u : World) (l : List (Nat × TypeId × Array Value)) : Prop := ∀ x ∈ l, Row u x.1 x.2.1 x.2.2
theorem Rws.nil (u : World) : Rws u [] := fun x h => by cases h
theorem Rws.below {u u' : World} {l : List (Nat × TypeId × Array Value)} (h : Rws u l) (hb : Below u.heap.size u u') : Rws u' l := fun x hx => (h x hx).below hb (h x hx).lt
theorem Rws.cons {u : World} {l : List (Nat × TypeId × Array Value)} (h : Rws u l) (t : TypeId) (cs : Array Value) : Rws (u.alloc (.cells cs t)) ((u.heap.size, t, cs) :: l) := fun x hx => by
  rcases List.mem_cons.1 hx with rfl | hx
  · exact Row.new u _ _
  · exact (h x hx).alloc _
theorem Rws.at {u : World} {l : List (Nat × TypeId × Array Value)} {x : Nat × TypeId × Array Value} (h : Rws u l) (i : Nat) (hi : l[i]? = some x) : Row u x.1 x.2.1 x.2.2 := h x (List.mem_of_getElem? hi)
theorem Rws.drew {u : World} {l : List (Nat × TypeId × Array Value)} (h : Rws u l) : Rws u.drew l := fun x hx => (h x hx).drew
/-- A fraction is stored into its box. -/
theorem Rws.over {u : World} {l l' : List (Nat × TypeId × Array Value)} {g : Nat} {x y : Value} {S T : ByteArray} (h : Rws u l) (hr : Row u g 23 #[x, y]) (hs : ∀ z, z ∈ l' → z ∈ l ∧ z.1 ≠ g) : Rws ((u.setCell ⟨g, 0, none⟩ (.string S)).setCell ⟨g, 1, none⟩ (.string T)) ((g, 23, #[.string S, .string T]) :: l') := fun z hz => by
  rcases List.mem_cons.1 hz with rfl | hz
  · exact rat_row hr
  · obtain ⟨h1, h2⟩ := hs z hz
    exact ((h z h1).far (by dsimp only; omega) _).far (by dsimp only; omega) _
theorem Rws.pick {u : World} {l : List (Nat × TypeId × Array Value)} (h : Rws u l) (js : List Nat) : Rws u (js.filterMap (fun i => l[i]?)) := fun z hz => by
  obtain ⟨i, -, hi⟩ := List.mem_filterMap.1 hz
  exact h z (List.mem_of_getElem? hi)
/-- The code from a region on. -/
def fromRegion (n : Nat) : Code → Option Code
  | .seq (.region id ops d) b => if id = n then some (.seq (.region id ops d) b) else fromRegion n b
  | .seq _ b => fromRegion n b
  | _ => none
noncomputable def fieldT2 : Code := (Tryz.f6.body.bind (fromRegion 21)).getD .skip
set_option maxRecDepth 100000 in
set_option maxHeartbeats 16000000 in
theorem field_tail2 (NA DA NB DB NC DC S0 T0 S1 T1 S2 T2 S3 T3 P0 PD0 P1 PD1 P2 PD2 P3 PD3 H2 J2 A1s A2s M1s M2s K1s K2s N1s N2s : ByteArray) (e0 e1 e2 e3 g0 g1 g2 g3 h2 l1 m1 o1 p1 : Int) (w V12 : World) (ga gb gc n1 n3 : Nat)
    (CAC : CallT 39 #[rvB NA DA, rvB NC DC] (.tuple #[rvB A1s A2s, .int .i64 l1]))
    (CSU : CallT 38 #[rvB A1s A2s, rvB P2 PD2] (.tuple #[rvB M1s M2s, .int .i64 m1]))
    (CWH : CallT 39 #[rvB S0 T0, rvB NC DC] (.tuple #[rvB H2 J2, .int .i64 h2]))
    (CBA : CallT 40 #[rvB S0 T0, rvB NB DB] (.tuple #[rvB K1s K2s, .int .i64 o1]))
    (CAG : CallT 39 #[rvB S3 T3, rvB NB DB] (.tuple #[rvB N1s N2s, .int .i64 p1]))
    (Q3 : e0 = 0 → l1 = 0 → g2 = 0 → m1 = 0 → h2 = 0 → M1s = H2 ∧ M2s = J2)
    (Q4 : e0 = 0 → o1 = 0 → K1s = NA ∧ K2s = DA)
    (Q5 : e3 = 0 → p1 = 0 → N1s = NA ∧ N2s = DA)
    (ht : TabP w) (hb : Below w.heap.size w V12) (hr : Rws V12 [(n3 + 1, 33, #[.int .i64 g0, .int .i64 g1, .int .i64 g2, .int .i64 g3]), (n3, 31, #[.string P0, .string PD0, .string P1, .string PD1, .string P2, .string PD2, .string P3, .string PD3]), (n1 + 1, 33, #[.int .i64 e0, .int .i64 e1, .int .i64 e2, .int .i64 e3]), (n1, 31, #[.string S0, .string T0, .string S1, .string T1, .string S2, .string T2, .string S3, .string T3]), (gb, 23, #[.string NB, .string DB]), (ga, 23, #[.string NA, .string DA]), (gc, 23, #[.string NC, .string DC])]) (v0 v1 v2 v3 v4 v5 v6 v7 v15 v16 v19 v20 v21 v22 v23 v24 v25 v26 v27 v28 v29 v30 v31 v32 v33 v34 v35 v36 v37 v38 v39 v40 v41 v42 v43 v44 v45 v46 v47 v48 v49 v50 v51 v52 v53 v54 v55 v56 v57 v58 v59 v60 v61 v62 v63 v64 v65 v66 v67 v68 v69 v70 v71 v72 v73 v74 v75 v76 v77 v78 v79 v80 v81 v82 v83 v84 v85 v86 v87 v88 v89 v90 v91 v92 v93 v94 v95 v96 v97 v98 v99 v100 v101 v102 v103 v104 v105 v106 v107 v108 v109 v110 v111 v112 v113 v114 v115 v116 v117 v118 v119 v120 v121 v122 v123 v124 v125 v126 v127 v128 v129 v130 v131 v132 v133 v134 v135 v136 v137 v138 v139 v140 v141 v142 v143 v144 v145 v146 v147 v148 v149 v150 v151 v152 v153 v154 v155 v156 v157 v158 v159 v160 v161 v162 v163 v164 v165 v166 v167 v168 v169 v170 v171 v172 v173 v174 v175 v176 v177 v178 v179 v180 v181 v182 v183 v184 v185 v186 v187 v188 v189 v190 v191 v192 v193 v194 v195 v196 v197 v198 v199 v200 v201 v202 v203 v204 v205 v206 v207 v208 v209 v210 v211 v212 v213 v214 v215 v216 v217 v218 v219 v220 v221 v222 v223 v224 v225 v226 v227 v228 v229 v230 v231 v232 v233 v234 v235 v236 v237 v238 v239 v240 v241 v242 v243 v244 v245 v246 v247 v248 v249 v250 v251 v252 v253 v254 v255 v256 v257 v258 v259 v260 v261 v262 v263 v264 v265 v266 v267 v268 v269 v270 v271 v272 v273 v274 : Value) :
    Code.wp Tryz.prog fieldT2 (bodyPost Tryz.prog Tryz.f6 fun e w' => e = .returned (.bool true) ∧ Below w.heap.size w w') ⟨#[v0, v1, v2, v3, v4, v5, v6, v7, .bool false, .bool true, .pointer (some ⟨ga, 0, none⟩), .pointer (some ⟨gb, 0, none⟩), .pointer (some ⟨gc, 0, none⟩), .pointer (some ⟨n1, 0, none⟩), .pointer (some ⟨n1 + 1, 0, none⟩), v15, v16, .pointer (some ⟨n3, 0, none⟩), .pointer (some ⟨n3 + 1, 0, none⟩), v19, v20, v21, v22, v23, v24, v25, v26, v27, v28, v29, v30, v31, v32, v33, v34, v35, v36, v37, v38, v39, v40, v41, v42, v43, v44, v45, v46, v47, v48, v49, v50, v51, v52, v53, v54, v55, v56, v57, v58, v59, v60, v61, v62, v63, v64, v65, v66, v67, v68, v69, v70, v71, v72, v73, v74, v75, v76, v77, v78, v79, v80, v81, v82, v83, v84, v85, v86, v87, v88, v89, v90, v91, v92, v93, v94, v95, v96, v97, v98, v99, v100, v101, v102, v103, v104, v105, v106, v107, v108, v109, v110, v111, v112, v113, v114, v115, v116, v117, v118, v119, v120, v121, v122, v123, v124, v125, v126, v127, v128, v129, v130, v131, v132, v133, v134, v135, v136, v137, v138, v139, v140, v141, v142, v143, v144, v145, v146, v147, v148, v149, v150, v151, v152, v153, v154, v155, v156, v157, v158, v159, v160, v161, v162, v163, v164, v165, v166, v167, v168, v169, v170, v171, v172, v173, v174, v175, v176, v177, v178, v179, v180, v181, v182, v183, v184, v185, v186, v187, v188, v189, v190, v191, v192, v193, v194, v195, v196, v197, v198, v199, v200, v201, v202, v203, v204, v205, v206, v207, v208, v209, v210, v211, v212, v213, v214, v215, v216, v217, v218, v219, v220, v221, v222, v223, v224, v225, v226, v227, v228, v229, v230, v231, v232, v233, v234, v235, v236, v237, v238, v239, v240, v241, v242, v243, v244, v245, v246, v247, v248, v249, v250, v251, v252, v253, v254, v255, v256, v257, v258, v259, v260, v261, v262, v263, v264, v265, v266, v267, v268, v269, v270, v271, v272, v273, v274], []⟩ V12 := by
  have HCAC := Lib.hid CAC
  have HCSU := Lib.hid CSU
  have HCWH := Lib.hid CWH
  have HCBA := Lib.hid CBA
  have HCAG := Lib.hid CAG
  have HQ3 := Lib.hid Q3
  have HQ4 := Lib.hid Q4
  have HQ5 := Lib.hid Q5
  have HT := Lib.hid ht; have HB := Lib.hid hb; have HR := Lib.hid hr
  clear ht hb hr CAC CSU CWH CBA CAG Q3 Q4 Q5
  unfold rvB at *
  conv => arg 2; whnf
  have x5_0 : V12.cell? ⟨ga, 0, none⟩ = some (.string NA) := (HR.out.at (x := (ga, 23, #[.string NA, .string DA])) 5 rfl).cell 0
  have x5_1 : V12.cell? ⟨ga, 1, none⟩ = some (.string DA) := (HR.out.at (x := (ga, 23, #[.string NA, .string DA])) 5 rfl).cell 1
  have y5 : ga < V12.heap.size := (HR.out.at (x := (ga, 23, #[.string NA, .string DA])) 5 rfl).lt
  have x6_0 : V12.cell? ⟨gc, 0, none⟩ = some (.string NC) := (HR.out.at (x := (gc, 23, #[.string NC, .string DC])) 6 rfl).cell 0
  have x6_1 : V12.cell? ⟨gc, 1, none⟩ = some (.string DC) := (HR.out.at (x := (gc, 23, #[.string NC, .string DC])) 6 rfl).cell 1
  have y6 : gc < V12.heap.size := (HR.out.at (x := (gc, 23, #[.string NC, .string DC])) 6 rfl).lt
  have x1_4 : V12.cell? ⟨n3, 4, none⟩ = some (.string P2) := (HR.out.at (x := (n3, 31, #[.string P0, .string PD0, .string P1, .string PD1, .string P2, .string PD2, .string P3, .string PD3])) 1 rfl).cell 4
  have x1_5 : V12.cell? ⟨n3, 5, none⟩ = some (.string PD2) := (HR.out.at (x := (n3, 31, #[.string P0, .string PD0, .string P1, .string PD1, .string P2, .string PD2, .string P3, .string PD3])) 1 rfl).cell 5
  have y1 : n3 < V12.heap.size := (HR.out.at (x := (n3, 31, #[.string P0, .string PD0, .string P1, .string PD1, .string P2, .string PD2, .string P3, .string PD3])) 1 rfl).lt
  have x3_0 : V12.cell? ⟨n1, 0, none⟩ = some (.string S0) := (HR.out.at (x := (n1, 31, #[.string S0, .string T0, .string S1, .string T1, .string S2, .string T2, .string S3, .string T3])) 3 rfl).cell 0
  have x3_1 : V12.cell? ⟨n1, 1, none⟩ = some (.string T0) := (HR.out.at (x := (n1, 31, #[.string S0, .string T0, .string S1, .string T1, .string S2, .string T2, .string S3, .string T3])) 3 rfl).cell 1
  have y3 : n1 < V12.heap.size := (HR.out.at (x := (n1, 31, #[.string S0, .string T0, .string S1, .string T1, .string S2, .string T2, .string S3, .string T3])) 3 rfl).lt
  go_upto_region 24 with (first | (go_at_call 39; (with_reducible refine Calls.mono (HCAC.out _ (HT.out.next HB.out)) ?_); rintro e w13 ⟨rfl, hb⟩; have hq := HR.out.below hb; clear x5_0 x5_1 y5 x6_0 x6_1 y6 x1_4 x1_5 y1 x3_0 x3_1 y3; have x6_0 : w13.cell? ⟨gc, 0, none⟩ = some (.string NC) := (hq.at (x := (gc, 23, #[.string NC, .string DC])) 6 rfl).cell 0; have x6_1 : w13.cell? ⟨gc, 1, none⟩ = some (.string DC) := (hq.at (x := (gc, 23, #[.string NC, .string DC])) 6 rfl).cell 1; have y6 : gc < w13.heap.size := (hq.at (x := (gc, 23, #[.string NC, .string DC])) 6 rfl).lt; have x1_4 : w13.cell? ⟨n3, 4, none⟩ = some (.string P2) := (hq.at (x := (n3, 31, #[.string P0, .string PD0, .string P1, .string PD1, .string P2, .string PD2, .string P3, .string PD3])) 1 rfl).cell 4; have x1_5 : w13.cell? ⟨n3, 5, none⟩ = some (.string PD2) := (hq.at (x := (n3, 31, #[.string P0, .string PD0, .string P1, .string PD1, .string P2, .string PD2, .string P3, .string PD3])) 1 rfl).cell 5; have y1 : n3 < w13.heap.size := (hq.at (x := (n3, 31, #[.string P0, .string PD0, .string P1, .string PD1, .string P2, .string PD2, .string P3, .string PD3])) 1 rfl).lt; have x3_0 : w13.cell? ⟨n1, 0, none⟩ = some (.string S0) := (hq.at (x := (n1, 31, #[.string S0, .string T0, .string S1, .string T1, .string S2, .string T2, .string S3, .string T3])) 3 rfl).cell 0; have x3_1 : w13.cell? ⟨n1, 1, none⟩ = some (.string T0) := (hq.at (x := (n1, 31, #[.string S0, .string T0, .string S1, .string T1, .string S2, .string T2, .string S3, .string T3])) 3 rfl).cell 1; have y3 : n1 < w13.heap.size := (hq.at (x := (n1, 31, #[.string S0, .string T0, .string S1, .string T1, .string S2, .string T2, .string S3, .string T3])) 3 rfl).lt; replace hq := hq.cons 23 #[.string A1s, .string A2s]; (try simp only [World.size_alloc] at hq); replace HR := Lib.hid hq; replace HB := Lib.hid (below_to (below_to HB.out hb) (new_below _ (.cells #[.string A1s, .string A2s] 23))); clear hb hq) | (go_at_call 38; (with_reducible refine Calls.mono (HCSU.out _ (HT.out.next HB.out)) ?_); rintro e w14 ⟨rfl, hb⟩; have hq := HR.out.below hb; clear x6_0 x6_1 y6 x1_4 x1_5 y1 x3_0 x3_1 y3; have x7_0 : w14.cell? ⟨gc, 0, none⟩ = some (.string NC) := (hq.at (x := (gc, 23, #[.string NC, .string DC])) 7 rfl).cell 0; have x7_1 : w14.cell? ⟨gc, 1, none⟩ = some (.string DC) := (hq.at (x := (gc, 23, #[.string NC, .string DC])) 7 rfl).cell 1; have y7 : gc < w14.heap.size := (hq.at (x := (gc, 23, #[.string NC, .string DC])) 7 rfl).lt; have x4_0 : w14.cell? ⟨n1, 0, none⟩ = some (.string S0) := (hq.at (x := (n1, 31, #[.string S0, .string T0, .string S1, .string T1, .string S2, .string T2, .string S3, .string T3])) 4 rfl).cell 0; have x4_1 : w14.cell? ⟨n1, 1, none⟩ = some (.string T0) := (hq.at (x := (n1, 31, #[.string S0, .string T0, .string S1, .string T1, .string S2, .string T2, .string S3, .string T3])) 4 rfl).cell 1; have y4 : n1 < w14.heap.size := (hq.at (x := (n1, 31, #[.string S0, .string T0, .string S1, .string T1, .string S2, .string T2, .string S3, .string T3])) 4 rfl).lt; replace hq := hq.cons 23 #[.string M1s, .string M2s]; (try simp only [World.size_alloc] at hq); replace HR := Lib.hid hq; replace HB := Lib.hid (below_to (below_to HB.out hb) (new_below _ (.cells #[.string M1s, .string M2s] 23))); clear hb hq) | (go_at_call 39; (with_reducible refine Calls.mono (HCWH.out _ (HT.out.next HB.out)) ?_); rintro e w15 ⟨rfl, hb⟩; have hq := HR.out.below hb; clear x7_0 x7_1 y7 x4_0 x4_1 y4; have x0_0 : w15.cell? ⟨w14.heap.size, 0, none⟩ = some (.string M1s) := (hq.at (x := (w14.heap.size, 23, #[.string M1s, .string M2s])) 0 rfl).cell 0; have x0_1 : w15.cell? ⟨w14.heap.size, 1, none⟩ = some (.string M2s) := (hq.at (x := (w14.heap.size, 23, #[.string M1s, .string M2s])) 0 rfl).cell 1; have y0 : w14.heap.size < w15.heap.size := (hq.at (x := (w14.heap.size, 23, #[.string M1s, .string M2s])) 0 rfl).lt; replace hq := hq.cons 23 #[.string H2, .string J2]; (try simp only [World.size_alloc] at hq); replace HR := Lib.hid hq; replace HB := Lib.hid (below_to (below_to HB.out hb) (new_below _ (.cells #[.string H2, .string J2] 23))); clear hb hq))
  obtain ⟨V15, hV15⟩ : ∃ W0, w15.alloc (.cells #[.string H2, .string J2] 23) = W0 := ⟨_, rfl⟩
  rw [hV15] at HR HB ⊢
  clear hV15
  clear x0_0 x0_1 y0
  have x0_0 : V15.cell? ⟨w15.heap.size, 0, none⟩ = some (.string H2) := (HR.out.at (x := (w15.heap.size, 23, #[.string H2, .string J2])) 0 rfl).cell 0
  have x0_1 : V15.cell? ⟨w15.heap.size, 1, none⟩ = some (.string J2) := (HR.out.at (x := (w15.heap.size, 23, #[.string H2, .string J2])) 0 rfl).cell 1
  have y0 : w15.heap.size < V15.heap.size := (HR.out.at (x := (w15.heap.size, 23, #[.string H2, .string J2])) 0 rfl).lt
  have x1_0 : V15.cell? ⟨w14.heap.size, 0, none⟩ = some (.string M1s) := (HR.out.at (x := (w14.heap.size, 23, #[.string M1s, .string M2s])) 1 rfl).cell 0
  have x1_1 : V15.cell? ⟨w14.heap.size, 1, none⟩ = some (.string M2s) := (HR.out.at (x := (w14.heap.size, 23, #[.string M1s, .string M2s])) 1 rfl).cell 1
  have y1 : w14.heap.size < V15.heap.size := (HR.out.at (x := (w14.heap.size, 23, #[.string M1s, .string M2s])) 1 rfl).lt
  have x5_0 : V15.cell? ⟨n1 + 1, 0, none⟩ = some (.int .i64 e0) := (HR.out.at (x := (n1 + 1, 33, #[.int .i64 e0, .int .i64 e1, .int .i64 e2, .int .i64 e3])) 5 rfl).cell 0
  have y5 : n1 + 1 < V15.heap.size := (HR.out.at (x := (n1 + 1, 33, #[.int .i64 e0, .int .i64 e1, .int .i64 e2, .int .i64 e3])) 5 rfl).lt
  have x3_2 : V15.cell? ⟨n3 + 1, 2, none⟩ = some (.int .i64 g2) := (HR.out.at (x := (n3 + 1, 33, #[.int .i64 g0, .int .i64 g1, .int .i64 g2, .int .i64 g3])) 3 rfl).cell 2
  have y3 : n3 + 1 < V15.heap.size := (HR.out.at (x := (n3 + 1, 33, #[.int .i64 g0, .int .i64 g1, .int .i64 g2, .int .i64 g3])) 3 rfl).lt
  go_cut [231] (fun s wx => s = .bool false ∧ V15 = wx)
  case first =>
    by_cases hf_e0 : e0 = 0
    · have hb_e0 : (e0 == 0) = true := beq_iff_eq.2 hf_e0
      replace hf_e0 := Lib.hid hf_e0
      by_cases hf_l1 : l1 = 0
      · have hb_l1 : (l1 == 0) = true := beq_iff_eq.2 hf_l1
        replace hf_l1 := Lib.hid hf_l1
        by_cases hf_g2 : g2 = 0
        · have hb_g2 : (g2 == 0) = true := beq_iff_eq.2 hf_g2
          replace hf_g2 := Lib.hid hf_g2
          by_cases hf_m1 : m1 = 0
          · have hb_m1 : (m1 == 0) = true := beq_iff_eq.2 hf_m1
            replace hf_m1 := Lib.hid hf_m1
            by_cases hf_h2 : h2 = 0
            · have hb_h2 : (h2 == 0) = true := beq_iff_eq.2 hf_h2
              replace hf_h2 := Lib.hid hf_h2
              obtain ⟨rfl, rfl⟩ := HQ3.out hf_e0.out hf_l1.out hf_g2.out hf_m1.out hf_h2.out
              go_wp2_with fail
              go_meet
              exact ⟨rfl, rfl⟩
            · have hb_h2 : (h2 == 0) = false := beq_eq_false_iff_ne.2 hf_h2
              have hn_h2 : (h2 != 0) = true := bne_iff_ne.2 hf_h2
              clear hf_h2
              go_wp2_with fail
              go_meet
              exact ⟨rfl, rfl⟩
          · have hb_m1 : (m1 == 0) = false := beq_eq_false_iff_ne.2 hf_m1
            have hn_m1 : (m1 != 0) = true := bne_iff_ne.2 hf_m1
            clear hf_m1
            go_wp2_with fail
            go_meet
            exact ⟨rfl, rfl⟩
        · have hb_g2 : (g2 == 0) = false := beq_eq_false_iff_ne.2 hf_g2
          have hn_g2 : (g2 != 0) = true := bne_iff_ne.2 hf_g2
          clear hf_g2
          go_wp2_with fail
          go_meet
          exact ⟨rfl, rfl⟩
      · have hb_l1 : (l1 == 0) = false := beq_eq_false_iff_ne.2 hf_l1
        have hn_l1 : (l1 != 0) = true := bne_iff_ne.2 hf_l1
        clear hf_l1
        go_wp2_with fail
        go_meet
        exact ⟨rfl, rfl⟩
    · have hb_e0 : (e0 == 0) = false := beq_eq_false_iff_ne.2 hf_e0
      have hn_e0 : (e0 != 0) = true := bne_iff_ne.2 hf_e0
      clear hf_e0
      go_wp2_with fail
      go_meet
      exact ⟨rfl, rfl⟩
  case rest =>
    obtain ⟨rfl, rfl⟩ := hcut
    replace HR : Hid (Rws _ [(n1 + 1, 33, #[.int .i64 e0, .int .i64 e1, .int .i64 e2, .int .i64 e3]), (n1, 31, #[.string S0, .string T0, .string S1, .string T1, .string S2, .string T2, .string S3, .string T3]), (gb, 23, #[.string NB, .string DB]), (ga, 23, #[.string NA, .string DA])]) := Lib.hid (HR.out.pick [5, 6, 7, 8])
    clear x0_0 x0_1 y0 x1_0 x1_1 y1 x5_0 y5 x3_2 y3
    have x3_0 : V15.cell? ⟨ga, 0, none⟩ = some (.string NA) := (HR.out.at (x := (ga, 23, #[.string NA, .string DA])) 3 rfl).cell 0
    have x3_1 : V15.cell? ⟨ga, 1, none⟩ = some (.string DA) := (HR.out.at (x := (ga, 23, #[.string NA, .string DA])) 3 rfl).cell 1
    have y3 : ga < V15.heap.size := (HR.out.at (x := (ga, 23, #[.string NA, .string DA])) 3 rfl).lt
    have x2_0 : V15.cell? ⟨gb, 0, none⟩ = some (.string NB) := (HR.out.at (x := (gb, 23, #[.string NB, .string DB])) 2 rfl).cell 0
    have x2_1 : V15.cell? ⟨gb, 1, none⟩ = some (.string DB) := (HR.out.at (x := (gb, 23, #[.string NB, .string DB])) 2 rfl).cell 1
    have y2 : gb < V15.heap.size := (HR.out.at (x := (gb, 23, #[.string NB, .string DB])) 2 rfl).lt
    have x1_0 : V15.cell? ⟨n1, 0, none⟩ = some (.string S0) := (HR.out.at (x := (n1, 31, #[.string S0, .string T0, .string S1, .string T1, .string S2, .string T2, .string S3, .string T3])) 1 rfl).cell 0
    have x1_1 : V15.cell? ⟨n1, 1, none⟩ = some (.string T0) := (HR.out.at (x := (n1, 31, #[.string S0, .string T0, .string S1, .string T1, .string S2, .string T2, .string S3, .string T3])) 1 rfl).cell 1
    have x1_6 : V15.cell? ⟨n1, 6, none⟩ = some (.string S3) := (HR.out.at (x := (n1, 31, #[.string S0, .string T0, .string S1, .string T1, .string S2, .string T2, .string S3, .string T3])) 1 rfl).cell 6
    have x1_7 : V15.cell? ⟨n1, 7, none⟩ = some (.string T3) := (HR.out.at (x := (n1, 31, #[.string S0, .string T0, .string S1, .string T1, .string S2, .string T2, .string S3, .string T3])) 1 rfl).cell 7
    have y1 : n1 < V15.heap.size := (HR.out.at (x := (n1, 31, #[.string S0, .string T0, .string S1, .string T1, .string S2, .string T2, .string S3, .string T3])) 1 rfl).lt
    go_upto_region 28 with (first | (go_at_call 40; (with_reducible refine Calls.mono (HCBA.out _ (HT.out.next HB.out)) ?_); rintro e w16 ⟨rfl, hb⟩; have hq := HR.out.below hb; clear x3_0 x3_1 y3 x2_0 x2_1 y2 x1_0 x1_1 x1_6 x1_7 y1; have x2_0 : w16.cell? ⟨gb, 0, none⟩ = some (.string NB) := (hq.at (x := (gb, 23, #[.string NB, .string DB])) 2 rfl).cell 0; have x2_1 : w16.cell? ⟨gb, 1, none⟩ = some (.string DB) := (hq.at (x := (gb, 23, #[.string NB, .string DB])) 2 rfl).cell 1; have y2 : gb < w16.heap.size := (hq.at (x := (gb, 23, #[.string NB, .string DB])) 2 rfl).lt; have x1_6 : w16.cell? ⟨n1, 6, none⟩ = some (.string S3) := (hq.at (x := (n1, 31, #[.string S0, .string T0, .string S1, .string T1, .string S2, .string T2, .string S3, .string T3])) 1 rfl).cell 6; have x1_7 : w16.cell? ⟨n1, 7, none⟩ = some (.string T3) := (hq.at (x := (n1, 31, #[.string S0, .string T0, .string S1, .string T1, .string S2, .string T2, .string S3, .string T3])) 1 rfl).cell 7; have y1 : n1 < w16.heap.size := (hq.at (x := (n1, 31, #[.string S0, .string T0, .string S1, .string T1, .string S2, .string T2, .string S3, .string T3])) 1 rfl).lt; replace hq := hq.cons 23 #[.string K1s, .string K2s]; (try simp only [World.size_alloc] at hq); replace HR := Lib.hid hq; replace HB := Lib.hid (below_to (below_to HB.out hb) (new_below _ (.cells #[.string K1s, .string K2s] 23))); clear hb hq) | (go_at_call 39; (with_reducible refine Calls.mono (HCAG.out _ (HT.out.next HB.out)) ?_); rintro e w17 ⟨rfl, hb⟩; have hq := HR.out.below hb; clear x2_0 x2_1 y2 x1_6 x1_7 y1; have x0_0 : w17.cell? ⟨w16.heap.size, 0, none⟩ = some (.string K1s) := (hq.at (x := (w16.heap.size, 23, #[.string K1s, .string K2s])) 0 rfl).cell 0; have x0_1 : w17.cell? ⟨w16.heap.size, 1, none⟩ = some (.string K2s) := (hq.at (x := (w16.heap.size, 23, #[.string K1s, .string K2s])) 0 rfl).cell 1; have y0 : w16.heap.size < w17.heap.size := (hq.at (x := (w16.heap.size, 23, #[.string K1s, .string K2s])) 0 rfl).lt; replace hq := hq.cons 23 #[.string N1s, .string N2s]; (try simp only [World.size_alloc] at hq); replace HR := Lib.hid hq; replace HB := Lib.hid (below_to (below_to HB.out hb) (new_below _ (.cells #[.string N1s, .string N2s] 23))); clear hb hq))
    obtain ⟨V17, hV17⟩ : ∃ W0, w17.alloc (.cells #[.string N1s, .string N2s] 23) = W0 := ⟨_, rfl⟩
    rw [hV17] at HR HB ⊢
    clear hV17
    clear x0_0 x0_1 y0
    have x0_0 : V17.cell? ⟨w17.heap.size, 0, none⟩ = some (.string N1s) := (HR.out.at (x := (w17.heap.size, 23, #[.string N1s, .string N2s])) 0 rfl).cell 0
    have x0_1 : V17.cell? ⟨w17.heap.size, 1, none⟩ = some (.string N2s) := (HR.out.at (x := (w17.heap.size, 23, #[.string N1s, .string N2s])) 0 rfl).cell 1
    have y0 : w17.heap.size < V17.heap.size := (HR.out.at (x := (w17.heap.size, 23, #[.string N1s, .string N2s])) 0 rfl).lt
    have x1_0 : V17.cell? ⟨w16.heap.size, 0, none⟩ = some (.string K1s) := (HR.out.at (x := (w16.heap.size, 23, #[.string K1s, .string K2s])) 1 rfl).cell 0
    have x1_1 : V17.cell? ⟨w16.heap.size, 1, none⟩ = some (.string K2s) := (HR.out.at (x := (w16.heap.size, 23, #[.string K1s, .string K2s])) 1 rfl).cell 1
    have y1 : w16.heap.size < V17.heap.size := (HR.out.at (x := (w16.heap.size, 23, #[.string K1s, .string K2s])) 1 rfl).lt
    have x5_0 : V17.cell? ⟨ga, 0, none⟩ = some (.string NA) := (HR.out.at (x := (ga, 23, #[.string NA, .string DA])) 5 rfl).cell 0
    have x5_1 : V17.cell? ⟨ga, 1, none⟩ = some (.string DA) := (HR.out.at (x := (ga, 23, #[.string NA, .string DA])) 5 rfl).cell 1
    have y5 : ga < V17.heap.size := (HR.out.at (x := (ga, 23, #[.string NA, .string DA])) 5 rfl).lt
    have x2_0 : V17.cell? ⟨n1 + 1, 0, none⟩ = some (.int .i64 e0) := (HR.out.at (x := (n1 + 1, 33, #[.int .i64 e0, .int .i64 e1, .int .i64 e2, .int .i64 e3])) 2 rfl).cell 0
    have x2_3 : V17.cell? ⟨n1 + 1, 3, none⟩ = some (.int .i64 e3) := (HR.out.at (x := (n1 + 1, 33, #[.int .i64 e0, .int .i64 e1, .int .i64 e2, .int .i64 e3])) 2 rfl).cell 3
    have y2 : n1 + 1 < V17.heap.size := (HR.out.at (x := (n1 + 1, 33, #[.int .i64 e0, .int .i64 e1, .int .i64 e2, .int .i64 e3])) 2 rfl).lt
    by_cases hf_e0 : e0 = 0
    · skip
      have hb_e0 : (e0 == 0) = true := beq_iff_eq.2 hf_e0
      have hn_e0 : (e0 != 0) = false := bne_eq_false_iff_eq.2 hf_e0
      replace hf_e0 := Lib.hid hf_e0
      by_cases hf_o1 : o1 = 0
      · skip
        have hb_o1 : (o1 == 0) = true := beq_iff_eq.2 hf_o1
        have hn_o1 : (o1 != 0) = false := bne_eq_false_iff_eq.2 hf_o1
        obtain ⟨rfl, rfl⟩ := HQ4.out hf_e0.out hf_o1
        replace hf_o1 := Lib.hid hf_o1
        by_cases hf_e3 : e3 = 0
        · skip
          have hb_e3 : (e3 == 0) = true := beq_iff_eq.2 hf_e3
          have hn_e3 : (e3 != 0) = false := bne_eq_false_iff_eq.2 hf_e3
          replace hf_e3 := Lib.hid hf_e3
          by_cases hf_p1 : p1 = 0
          · skip
            have hb_p1 : (p1 == 0) = true := beq_iff_eq.2 hf_p1
            have hn_p1 : (p1 != 0) = false := bne_eq_false_iff_eq.2 hf_p1
            obtain ⟨rfl, rfl⟩ := HQ5.out hf_e3.out hf_p1
            replace hf_p1 := Lib.hid hf_p1
            go_wp2_with fail
            go_ret
            exact ⟨rfl, HB.out⟩
          · skip
            have hb_p1 : (p1 == 0) = false := beq_eq_false_iff_ne.2 hf_p1
            have hn_p1 : (p1 != 0) = true := bne_iff_ne.2 hf_p1
            clear hf_p1
            go_wp2_with fail
            go_ret
            exact ⟨rfl, HB.out⟩
        · skip
          have hb_e3 : (e3 == 0) = false := beq_eq_false_iff_ne.2 hf_e3
          have hn_e3 : (e3 != 0) = true := bne_iff_ne.2 hf_e3
          clear hf_e3
          go_wp2_with fail
          go_ret
          exact ⟨rfl, HB.out⟩
      · skip
        have hb_o1 : (o1 == 0) = false := beq_eq_false_iff_ne.2 hf_o1
        have hn_o1 : (o1 != 0) = true := bne_iff_ne.2 hf_o1
        clear hf_o1
        by_cases hf_e3 : e3 = 0
        · skip
          have hb_e3 : (e3 == 0) = true := beq_iff_eq.2 hf_e3
          have hn_e3 : (e3 != 0) = false := bne_eq_false_iff_eq.2 hf_e3
          replace hf_e3 := Lib.hid hf_e3
          by_cases hf_p1 : p1 = 0
          · skip
            have hb_p1 : (p1 == 0) = true := beq_iff_eq.2 hf_p1
            have hn_p1 : (p1 != 0) = false := bne_eq_false_iff_eq.2 hf_p1
            obtain ⟨rfl, rfl⟩ := HQ5.out hf_e3.out hf_p1
            replace hf_p1 := Lib.hid hf_p1
            go_wp2_with fail
            go_ret
            exact ⟨rfl, HB.out⟩
          · skip
            have hb_p1 : (p1 == 0) = false := beq_eq_false_iff_ne.2 hf_p1
            have hn_p1 : (p1 != 0) = true := bne_iff_ne.2 hf_p1
            clear hf_p1
            go_wp2_with fail
            go_ret
            exact ⟨rfl, HB.out⟩
        · skip
          have hb_e3 : (e3 == 0) = false := beq_eq_false_iff_ne.2 hf_e3
          have hn_e3 : (e3 != 0) = true := bne_iff_ne.2 hf_e3
          clear hf_e3
          go_wp2_with fail
          go_ret
          exact ⟨rfl, HB.out⟩
    · skip
      have hb_e0 : (e0 == 0) = false := beq_eq_false_iff_ne.2 hf_e0
      have hn_e0 : (e0 != 0) = true := bne_iff_ne.2 hf_e0
      clear hf_e0
      by_cases hf_e3 : e3 = 0
      · skip
        have hb_e3 : (e3 == 0) = true := beq_iff_eq.2 hf_e3
        have hn_e3 : (e3 != 0) = false := bne_eq_false_iff_eq.2 hf_e3
        replace hf_e3 := Lib.hid hf_e3
        by_cases hf_p1 : p1 = 0
        · skip
          have hb_p1 : (p1 == 0) = true := beq_iff_eq.2 hf_p1
          have hn_p1 : (p1 != 0) = false := bne_eq_false_iff_eq.2 hf_p1
          obtain ⟨rfl, rfl⟩ := HQ5.out hf_e3.out hf_p1
          replace hf_p1 := Lib.hid hf_p1
          go_wp2_with fail
          go_ret
          exact ⟨rfl, HB.out⟩
        · skip
          have hb_p1 : (p1 == 0) = false := beq_eq_false_iff_ne.2 hf_p1
          have hn_p1 : (p1 != 0) = true := bne_iff_ne.2 hf_p1
          clear hf_p1
          go_wp2_with fail
          go_ret
          exact ⟨rfl, HB.out⟩
      · skip
        have hb_e3 : (e3 == 0) = false := beq_eq_false_iff_ne.2 hf_e3
        have hn_e3 : (e3 != 0) = true := bne_iff_ne.2 hf_e3
        clear hf_e3
        go_wp2_with fail
        go_ret
        exact ⟨rfl, HB.out⟩
end Go.Proofs.YtabkodpjhpjgnaaGreatDoor
