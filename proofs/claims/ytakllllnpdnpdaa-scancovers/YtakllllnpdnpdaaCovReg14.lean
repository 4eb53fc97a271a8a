/-
  ScanCovers' test over what stands at a place (region 14).
-/
import Derived.Test.YtakllllnpdnpdaaCovSkip
import Derived.Test.YtakllllnpdnpdaaCovOf
import Derived.Test.YtakllllnpdnpdaaOrdN
import Derived.Test.YtakllllnpdnpdaaWrap
import Derived.WalkSmall
namespace Go.Proofs.Ytakllllnpdnpdaa
open Go.RowKit
set_option linter.unusedSimpArgs false
set_option linter.unusedVariables false
set_option maxHeartbeats 40000000 in
set_option maxRecDepth 1000000 in
theorem reg14_any (s cs : ByteArray) (W2 wr : World) (ga gs gx nC cc k a ln q m : Nat) (ni : Int) (hl : s.size ≤ 400) (hgs : gs < ga) (cS : W2.cell? ⟨gs, 0, none⟩ = some (.string s)) (hx : k < nC) (hc1 : nC ≤ cc) (hc2 : cc ≤ 9223372036854775807)
    (e2 : a ≤ q) (e5 : q + cs.size ≤ s.size) (e6 : s.extract q (q + cs.size) = cs) (hml : m ≤ q + 1) (hln : ln ≤ a + 1) (hat : ∀ wr, Below ga W2 wr → CmAt wr gx (k * 4) ⟨cs, q, m, ni⟩)
    (HK : ∀ (W : World), One W ga 3 (.int .i64 a) → One W (ga + 1) 3 (.int .i64 ln) → Below ga W2 W → Calls Try.prog 7 #[.int .i64 q, .pointer (some ⟨ga, 0, none⟩), .pointer (some ⟨gs, 0, none⟩), .pointer (some ⟨ga + 1, 0, none⟩)] W fun e w' => e = .returned (.bool true) ∧ One w' ga 3 (.int .i64 q) ∧ One w' (ga + 1) 3 (.int .i64 m) ∧ Below ga W w')
    (hA : One wr ga 3 (.int .i64 a)) (hN : One wr (ga + 1) 3 (.int .i64 ln)) (hw : Below ga W2 wr)
    {c0 c2 c3 c4 c6 c11 c12 c13 c14 c15 c16 c17 c18 c19 c20 c21 c22 c23 c24 c25 c26 c27 c28 c29 c30 c31 c32 c33 c34 c35 c36 c37 c38 c39 c40 c41 c42 c43 c44 c45 c46 c47 c48 c49 c50 c51 c52 c53 c54 c55 c56 c57 c58 c59 c60 c61 c62 c63 c64 c65 c66 c67 c68 c69 c70 c71 c72 c73 c74 c75 c76 c77 c78 c79 c80 c81 c82 c83 c84 c85 c86 c87 c88 c89 c90 c91 c92 c93 c94 c95 c96 c97 c98 c99 c100 c101 c102 c103 c104 c105 c106 c107 c108 c109 c110 c111 c112 c113 c114 c115 c116 c117 c118 c119 c120 c121 c122 c123 c124 c125 c126 c127 c128 c129 c130 c131 c132 c133 c134 c135 c136 c137 c138 c139 c140 c141 c142 c143 c144 c145 c146 c147 c148 c149 c150 c151 c152 c153 c154 c155 c156 c157 c158 c159 c160 c161 c162 c163 c164 c165 c166 c167 c168 c169 c170 c171 c172 c173 c174 c175 c176 c177 c178 c179 c180 c181 c182 c183 c184 c185 c186 c187 c188 c189 c190 c191 c192 c193 c194 c195 c196 c197 c198 c199 c200 c201 c202 c203 c204 c205 c206 c207 c208 c209 c210 c211 c212 c213 c214 c215 c216 c217 c218 c219 c220 c221 c222 c223 c224 c225 c226 c227 c228 c229 c230 c231 c232 c233 c234 c235 c236 c237 c238 c239 c240 c241 c242 c243 c244 c245 c246 c247 c248 c249 c250 c251 c252 c253 c254 c255 c256 c257 c258 c259 c260 c261 c262 c263 c264 c265 c266 c267 c268 c269 c270 c271 c272 c273 c274 c275 c276 c277 c278 c279 c280 : Value} {Q : Exit → Act → World → Prop}
    (hQ : ∀ (u53 u54 u55 u56 u57 u58 u59 u60 u61 u62 u63 u64 u65 u66 u67 u68 u69 u70 u71 u72 u73 u74 u75 u76 u77 u78 u79 u80 u81 u82 u83 u84 u85 u86 u87 u88 u89 u90 u91 u92 u93 u94 u95 u96 u97 u98 u99 u100 u101 u102 u103 u104 u105 u106 u107 u108 u109 u110 u111 u112 u113 u114 u115 u116 u117 u118 u119 u120 u121 : Value) (W6 : World), One W6 ga 3 (.int .i64 q) → One W6 (ga + 1) 3 (.int .i64 m) → Below ga W2 W6 → Q .normal ⟨#[c0, .pointer (some ⟨gs, 0, none⟩), c2, c3, c4, .slice (some ⟨gx, 0, none⟩) nC cc, c6, .pointer (some ⟨ga, 0, none⟩), .int .i64 k, .pointer (some ⟨ga + 1, 0, none⟩), .func (.func 7) #[] #[.pointer (some ⟨ga, 0, none⟩), .pointer (some ⟨gs, 0, none⟩), .pointer (some ⟨ga + 1, 0, none⟩)], c11, c12, c13, c14, c15, c16, c17, c18, c19, c20, c21, c22, c23, c24, c25, c26, c27, c28, c29, c30, c31, c32, c33, c34, c35, c36, c37, c38, c39, c40, c41, c42, c43, c44, c45, c46, c47, c48, c49, c50, c51, c52, u53, u54, u55, u56, u57, u58, u59, u60, u61, u62, u63, u64, u65, u66, u67, u68, u69, u70, u71, u72, u73, u74, u75, u76, u77, u78, u79, u80, u81, u82, u83, u84, u85, u86, u87, u88, u89, u90, u91, u92, u93, u94, u95, u96, u97, u98, u99, u100, u101, u102, u103, u104, u105, u106, u107, u108, u109, u110, u111, u112, u113, u114, u115, u116, u117, u118, u119, u120, u121, .bool false, c123, c124, c125, c126, c127, c128, c129, c130, c131, c132, c133, c134, c135, c136, c137, c138, c139, c140, c141, c142, c143, c144, c145, c146, c147, c148, c149, c150, c151, c152, c153, c154, c155, c156, c157, c158, c159, c160, c161, c162, c163, c164, c165, c166, c167, c168, c169, c170, c171, c172, c173, c174, c175, c176, c177, c178, c179, c180, c181, c182, c183, c184, c185, c186, c187, c188, c189, c190, c191, c192, c193, c194, c195, c196, c197, c198, c199, c200, c201, c202, c203, c204, c205, c206, c207, c208, c209, c210, c211, c212, c213, c214, c215, c216, c217, c218, c219, c220, c221, c222, c223, c224, c225, c226, c227, c228, c229, c230, c231, c232, c233, c234, c235, c236, c237, c238, c239, c240, c241, c242, c243, c244, c245, c246, c247, c248, c249, c250, c251, c252, c253, c254, c255, c256, c257, c258, c259, c260, c261, c262, c263, c264, c265, c266, c267, c268, c269, c270, c271, c272, c273, c274, c275, c276, c277, c278, c279, c280], []⟩ W6) :
    Code.wp Try.prog ((regOf 14 (Try.f3.body.getD .skip)).getD .skip) Q ⟨#[c0, .pointer (some ⟨gs, 0, none⟩), c2, c3, c4, .slice (some ⟨gx, 0, none⟩) nC cc, c6, .pointer (some ⟨ga, 0, none⟩), .int .i64 k, .pointer (some ⟨ga + 1, 0, none⟩), .func (.func 7) #[] #[.pointer (some ⟨ga, 0, none⟩), .pointer (some ⟨gs, 0, none⟩), .pointer (some ⟨ga + 1, 0, none⟩)], c11, c12, c13, c14, c15, c16, c17, c18, c19, c20, c21, c22, c23, c24, c25, c26, c27, c28, c29, c30, c31, c32, c33, c34, c35, c36, c37, c38, c39, c40, c41, c42, c43, c44, c45, c46, c47, c48, c49, c50, c51, c52, c53, c54, c55, c56, c57, c58, c59, c60, c61, c62, c63, c64, c65, c66, c67, c68, c69, c70, c71, c72, c73, c74, c75, c76, c77, c78, c79, c80, c81, c82, c83, c84, c85, c86, c87, c88, c89, c90, c91, c92, c93, c94, c95, c96, c97, c98, c99, c100, c101, c102, c103, c104, c105, c106, c107, c108, c109, c110, c111, c112, c113, c114, c115, c116, c117, c118, c119, c120, c121, c122, c123, c124, c125, c126, c127, c128, c129, c130, c131, c132, c133, c134, c135, c136, c137, c138, c139, c140, c141, c142, c143, c144, c145, c146, c147, c148, c149, c150, c151, c152, c153, c154, c155, c156, c157, c158, c159, c160, c161, c162, c163, c164, c165, c166, c167, c168, c169, c170, c171, c172, c173, c174, c175, c176, c177, c178, c179, c180, c181, c182, c183, c184, c185, c186, c187, c188, c189, c190, c191, c192, c193, c194, c195, c196, c197, c198, c199, c200, c201, c202, c203, c204, c205, c206, c207, c208, c209, c210, c211, c212, c213, c214, c215, c216, c217, c218, c219, c220, c221, c222, c223, c224, c225, c226, c227, c228, c229, c230, c231, c232, c233, c234, c235, c236, c237, c238, c239, c240, c241, c242, c243, c244, c245, c246, c247, c248, c249, c250, c251, c252, c253, c254, c255, c256, c257, c258, c259, c260, c261, c262, c263, c264, c265, c266, c267, c268, c269, c270, c271, c272, c273, c274, c275, c276, c277, c278, c279, c280], []⟩ wr := by
  have hm0 : ((m : Int) != (m : Int)) = false := by simp
  have hm1 : ¬ ((s.size : Int) < (q : Int) + cs.size) := by omega
  have hm2 : (cs.toList != cs.toList) = false := by simp
  have hkz : (k : Int) < nC := by omega
  have haq : ¬ ((q : Int) < a) := by omega
  have hadd : IntKind.i64.wrap ((q : Int) + cs.size) = (q : Int) + cs.size := wrapI _ (by omega) (by omega)
  obtain ⟨x0, x1, x2, x3⟩ := hat wr hw
  dsimp only at x0 x1 x2 x3
  replace hat := hide hat
  replace HK := hide HK
  replace hQ := hide hQ
  have cA := hA.cell
  conv => arg 2; whnf
  dsimp only [List.append]
  refine wp_region_narrow 14 (by kernel_rfl) rfl (by kernel_rfl) ?_
  simp only [List.take_succ_cons, List.take_zero]
  repeat (go_big_quiet_step (fail))
  refine wpQuiet_nil ?_
  intro nq K hK
  rw [if_pos (by kernel_rfl)]
  replace hA : One (wr.drewN nq) ga 3 (.int .i64 a) := hA
  replace hN : One (wr.drewN nq) (ga + 1) 3 (.int .i64 ln) := hN
  replace hw : Below ga W2 (wr.drewN nq) := below_drewN hw _
  clear x0 x1 x2 x3 cA
  generalize wr.drewN nq = W at *
  go_simp
  refine (unhide HK W hA hN hw).mono ?_
  rintro e W5 ⟨rfl, hA5, hN5, hw5⟩
  replace hw5 := hw.trans hw5
  clear hA hN hw
  go_simp
  refine unhide hK _ _ ?_
  clear hK K HK
  obtain ⟨y0, y1, y2, y3⟩ := unhide hat W5 hw5
  dsimp only at y0 y1 y2 y3
  have cA5 := hA5.cell
  have cN5 := hN5.cell
  have fA5 := hA5.frozen
  have cS5 : W5.cell? ⟨gs, 0, none⟩ = some (.string s) := by rw [hw5.cell (by exact hgs)]; exact cS
  simp only [List.drop_succ_cons, List.drop_zero]
  try simp only [List.getElem_toArray, List.getElem_cons_succ, List.getElem_cons_zero, Act.put, List.setIfInBounds_toArray, List.set_cons_zero, List.set_cons_succ]
  repeat (go_big_quiet_step (fail))
  refine wpQuiet_nil ?_
  rintro _ ⟨nq2, rfl⟩
  exact unhide hQ _ _ _ _ _ _ _ _ _ _ _ _ _ _ _ _ _ _ _ _ _ _ _ _ _ _ _ _ _ _ _ _ _ _ _ _ _ _ _ _ _ _ _ _ _ _ _ _ _ _ _ _ _ _ _ _ _ _ _ _ _ _ _ _ _ _ _ _ _ (W5.drewN nq2) hA5 hN5 (below_drewN hw5 _)
end Go.Proofs.Ytakllllnpdnpdaa
