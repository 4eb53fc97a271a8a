/-
  ScanCovers.
-/
import Derived.Test.YtakllllnpdnpdaaCutS
import Derived.Test.YtakllllnpdnpdaaCovReg14
import Derived.Test.YtakllllnpdnpdaaCovReg21
import Derived.Test.YtakllllnpdnpdaaScanBegun
import Derived.Test.YtakllllnpdnpdaaTokRefE
import Derived.Deep.DeepCutAuto
import Derived.Test.YtakllllnpdnpdaaOrdN
import Derived.Test.YtakllllnpdnpdaaWrap
import Derived.Deep.RegionHeld
import Derived.BigRegion
namespace Go.Proofs.Ytakllllnpdnpdaa
open Go.RowKit
set_option linter.unusedSimpArgs false
set_option linter.unusedVariables false
theorem big_range (s : ByteArray) : bigF s (flt s) = -1 ∨ 0 ≤ bigF s (flt s) := by
  have := flt_range s
  unfold bigF
  split <;> omega
set_option maxHeartbeats 40000000 in
set_option maxRecDepth 100000 in
theorem scanCovers_shell (a0 : ByteArray) (w0 : a0.size ≤ maxLen) (w : World) :
    Calls Try.prog 3 #[.string a0] w fun e w' => e = .returned (.bool true) ∧ Below w.heap.size w w' := by
  have hl := cutS_le a0 400
  have HC := hide (fun w => cut_any a0 400 w w0 (by omega))
  generalize cutS a0 400 = s at *
  have HB := hide (fun w => scanbegun_any w)
  have HS := hide (fun w => pScan_any s w (by omega))
  have hbig := scan_bad (s := s) (big_range s)
  have hcov := hide (fun h => cov_scan (s := s) h (big_range s))
  generalize scanR s (bigF s (flt s)) = R at *
  obtain ⟨L, C, bad⟩ := R
  dsimp only at hbig hcov HS
  have hmf : ∀ (fn : Fn) (first cap : Array Value) (w : World), (Instr.makeFunc fn first cap).run Try.prog w = .ok (.func fn first cap) w := fun _ _ _ _ => rfl
  have hg0 : (w.alloc (.cells #[.string a0] 9)).heap[w.heap.size]? = some (.cells #[.string a0] 9 (0, 0)) := heap_alloc_new w _
  have hb0 := below_alloc w (.cells #[.string a0] 9)
  have hz0 : w.heap.size < (w.alloc (.cells #[.string a0] 9)).heap.size := (Array.getElem?_eq_some_iff.1 hg0).1
  replace hg0 := hide hg0
  go_enter Try.func3, Try.ntmps3
  go_wp2_with fail
  generalize w.alloc (.cells #[.string a0] 9) = Wa at *
  refine (unhide HB _).mono ?_
  rintro e W0 ⟨rfl, hb1⟩
  have hG : One W0 w.heap.size 9 (.string a0) := (hb1.block _ hz0).trans (unhide hg0)
  replace hb0 := below3 hb0 hb1
  have cG := hG.cell
  have fG := hG.frozen
  clear hb1 hg0 hz0
  go_wp2_with fail
  refine (unhide HC _).mono ?_
  rintro e W1 ⟨rfl, rfl⟩
  have hG2 := hG.set (.string s)
  have hb2 := hb0.setCell (p := ⟨w.heap.size, 0, none⟩) (Nat.le_refl _) (.string s)
  have cG2 := hG2.cell
  replace hb2 := hide hb2
  replace hG2 := hide hG2
  clear hG HB HC hb0
  go_wp2_with fail
  generalize World.setCell W1 ⟨w.heap.size, 0, none⟩ (.string s) = Wb at *
  refine (unhide HS _).mono ?_
  rintro e W2 ⟨vl, vc, rfl, hOT, hOC, hb3⟩
  have hT := own_toks hOT
  have hCm := own_coms hOC
  have hG3 : One W2 w.heap.size 9 (.string s) := (hb3.block _ (unhide hG2).lt).trans (unhide hG2)
  replace hb3 := below3 (unhide hb2) hb3
  clear hOT hOC HS cG fG cG2 hG2 hb2
  obtain ⟨al, cl, rfl, hl1, hl2, hl3⟩ := hT
  obtain ⟨ac, cc, rfl, hc1, hc2, hc3⟩ := hCm
  unfold maxLen at hl2 hc2
  rcases hbig with hbad | ⟨hbad, rfl, rfl⟩
  · subst hbad
    replace hcov := hide (unhide hcov rfl)
    replace hl3 := hide hl3
    replace hc3 := hide hc3
    go_wp2
    have hA0 : One ((W2.alloc (.cells #[.int .i64 0] 3)).alloc (.cells #[.int .i64 1] 3)) W2.heap.size 3 (.int .i64 0) :=
      (Below.heap_alloc _ _ _ (by simp)).trans (heap_alloc_new W2 _)
    have hN0 : One ((W2.alloc (.cells #[.int .i64 0] 3)).alloc (.cells #[.int .i64 1] 3)) (W2.heap.size + 1) 3 (.int .i64 1) := by
      have := heap_alloc_new (W2.alloc (.cells #[.int .i64 0] 3)) (.cells #[.int .i64 1] 3)
      rw [show (W2.alloc (.cells #[.int .i64 0] 3)).heap.size = W2.heap.size + 1 by simp] at this
      exact this
    have hw0 : Below W2.heap.size W2 ((W2.alloc (.cells #[.int .i64 0] 3)).alloc (.cells #[.int .i64 1] 3)) :=
      (below_alloc W2 _).alloc (by simp) _
    generalize (W2.alloc (.cells #[.int .i64 0] 3)).alloc (.cells #[.int .i64 1] 3) = W3 at *
    have hgs : w.heap.size < W2.heap.size := hG3.lt
    have cS := hG3.cell
    have hT : Hid (∀ i t, L[i]? = some t → ∃ gl, al = some ⟨gl, 0, none⟩ ∧ ∀ wr, Below W2.heap.size W2 wr → TkAt wr gl (i * 5) t) := hide fun i t hi => by
      obtain ⟨gl, h1, h2, h3⟩ := unhide hl3 (Nat.lt_of_le_of_lt (Nat.zero_le i) (List.getElem?_eq_some_iff.1 hi).1)
      exact ⟨gl, h1, fun wr hb => (h3 i t hi).below h2 hb⟩
    have hCm : Hid (∀ i t, C[i]? = some t → ∃ gl, ac = some ⟨gl, 0, none⟩ ∧ ∀ wr, Below W2.heap.size W2 wr → CmAt wr gl (i * 4) t) := hide fun i t hi => by
      obtain ⟨gl, h1, h2, h3⟩ := unhide hc3 (Nat.lt_of_le_of_lt (Nat.zero_le i) (List.getElem?_eq_some_iff.1 hi).1)
      exact ⟨gl, h1, fun wr hb => (h3 i t hi).below h2 hb⟩
    clear hl3 hc3 hG3
    replace hb3 := hide hb3
    replace hA0 := hide hA0
    replace hN0 := hide hN0
    replace hw0 := hide hw0
    obtain ⟨ga, hga⟩ : ∃ ga, W2.heap.size = ga := ⟨_, rfl⟩
    obtain ⟨gs, hgs'⟩ : ∃ gs, w.heap.size = gs := ⟨_, rfl⟩
    obtain ⟨nL, hnL⟩ : ∃ nL, L.length = nL := ⟨_, rfl⟩
    obtain ⟨nC, hnC⟩ : ∃ nC, C.length = nC := ⟨_, rfl⟩
    rw [hga] at hgs hT hCm hA0 hN0 hw0 ⊢
    rw [hgs'] at hgs cS ⊢
    rw [hnL] at hl1 ⊢
    rw [hnC] at hc1 ⊢
    replace hga := hide hga
    replace hgs' := hide hgs'
    go_loopg [8, 11] nL (fun gf ks is wx => ∃ i k a ln : Nat, ks = .int .i64 k ∧ is = .int .i64 i ∧ i + gf = nL ∧ k ≤ nC ∧ a ≤ s.size ∧ ln ≤ a + 1 ∧ Hid (Cov s L C i k a ln) ∧ One wx ga 3 (.int .i64 a) ∧ One wx (ga + 1) 3 (.int .i64 ln) ∧ Below ga W2 wx)
    case atStart => exact ⟨0, 0, 0, 1, rfl, rfl, by omega, by omega, by omega, by omega, hcov, unhide hA0, unhide hN0, unhide hw0⟩
    case round =>
      clear hA0 hN0 hw0 hcov
      obtain ⟨i, k, a, ln, rfl, rfl, hi, hk, ha, hln, hcv, hA, hN, hw⟩ := hrel
      have hcs : wr.cell? ⟨gs, 0, none⟩ = some (.string s) := by rw [hw.cell (by exact hgs)]; exact cS
      have cA := hA.cell
      by_cases hlt : i < nL
      · have hlz : (i : Int) < nL := by omega
        clear hcs cA
        go_upto_if 37 with fail
        iterate 7 go_step
        go_cut [8] (fun ks wx => ∃ k a ln : Nat, ks = .int .i64 k ∧ k ≤ nC ∧ a ≤ s.size ∧ ln ≤ a + 1 ∧ Hid (Cov s L C i k a ln) ∧ Hid (∀ c, C[k]? = some c → ¬ c.n = i) ∧ One wx ga 3 (.int .i64 a) ∧ One wx (ga + 1) 3 (.int .i64 ln) ∧ Below ga W2 wx)
        case first =>
          go_wp2
          go_loopg [8] nC (fun gf ks wx => ∃ k a ln : Nat, ks = .int .i64 k ∧ k ≤ nC ∧ nC ≤ k + gf ∧ a ≤ s.size ∧ ln ≤ a + 1 ∧ Hid (Cov s L C i k a ln) ∧ One wx ga 3 (.int .i64 a) ∧ One wx (ga + 1) 3 (.int .i64 ln) ∧ Below ga W2 wx)
          case atStart => exact ⟨k, a, ln, rfl, hk, by omega, ha, hln, hcv, hA, hN, hw⟩
          case round =>
            clear hk ha hln hcv hA hN hw
            obtain ⟨k, a, ln, rfl, hk, hkf, ha, hln, hcv, hA, hN, hw⟩ := hrel
            by_cases hex : ∃ c, C[k]? = some c ∧ c.n = i
            · obtain ⟨c, hc, hcn⟩ := hex
              obtain ⟨gc, rfl, hat⟩ := unhide hCm k c hc
              obtain ⟨q, e1, e2, e3, e4, e5, e6, e7⟩ := cov_com (unhide hcv) hc hcn (by omega)
              have hkn : k < nC := by have := (List.getElem?_eq_some_iff.1 hc).1; omega
              obtain ⟨g', rfl⟩ : ∃ g', gk = g' + 1 := ⟨gk - 1, by omega⟩
              have hnl : nls s a q ≤ q - a := nls_le s a (q - a)
              have HK := hide (fun (W : World) (hA : One W ga 3 (.int .i64 a)) (hN : One W (ga + 1) 3 (.int .i64 ln)) (hw : Below ga W2 W) => skip_any s W ga ga gs (ga + 1) a q ln (by omega) hgs (Nat.le_refl _) (by omega) (by omega) hA hN (by rw [hw.cell (by exact hgs)]; exact cS) e2 (by omega) (by omega) e3)
              obtain ⟨cs, cp, cl2, cn⟩ := c
              dsimp only at *
              have hml : ln + nls s a q ≤ q + 1 := by omega
              clear hnl e3 hcv
              generalize ln + nls s a q = m at *
              obtain rfl : cn = i := hcn
              obtain rfl : cp = q := e1
              obtain rfl : cl2 = m := e4
              have hm0 : ((m : Int) != (m : Int)) = false := by simp
              have hm1 : ¬ ((s.size : Int) < (q : Int) + cs.size) := by omega
              have hm2 : (cs.toList != cs.toList) = false := by simp
              have hkz : (k : Int) < nC := by omega
              have haq : ¬ ((q : Int) < a) := by omega
              have hadd : IntKind.i64.wrap ((q : Int) + cs.size) = (q : Int) + cs.size := wrapI _ (by omega) (by omega)
              obtain ⟨x0, x1, x2, x3⟩ := hat wr hw
              dsimp only at x0 x1 x2 x3
              replace hat := hide hat
              replace hc := hide hc
              replace e7 := hide e7
              have cA := hA.cell
              go_upto_region 14 with fail
              refine reg14_any s cs W2 wr ga gs gc nC cc k a ln q m i hl hgs cS hkn hc1 hc2 e2 e5 e6 hml hln (unhide hat) (unhide HK) hA hN hw ?_
              intro u53 u54 u55 u56 u57 u58 u59 u60 u61 u62 u63 u64 u65 u66 u67 u68 u69 u70 u71 u72 u73 u74 u75 u76 u77 u78 u79 u80 u81 u82 u83 u84 u85 u86 u87 u88 u89 u90 u91 u92 u93 u94 u95 u96 u97 u98 u99 u100 u101 u102 u103 u104 u105 u106 u107 u108 u109 u110 u111 u112 u113 u114 u115 u116 u117 u118 u119 u120 u121 W6 hA5 hN5 hw5
              clear x0 x1 x2 x3 cA hA hN hw HK
              obtain ⟨y0, y1, y2, y3⟩ := unhide hat W6 hw5
              dsimp only at y0 y1 y2 y3
              have cA5 := hA5.cell
              have fA5 := hA5.frozen
              have hA6 := hide (hA5.set (.int .i64 ((q : Int) + cs.size)))
              have hN6 := hide (hN5.other (g' := ga) (by omega) (.int .i64 ((q : Int) + cs.size)))
              have hw6 := hide (hw5.setCell (p := ⟨ga, 0, none⟩) (Nat.le_refl _) (.int .i64 ((q : Int) + cs.size)))
              clear hA5 hN5 hw5 y2 y3
              go_upto_region 16 with fail
              go_region
              go_wp2
              go_roundg g'
              case measure => omega
              case rel => exact ⟨k + 1, q + cs.size, m, by go_num, by omega, by omega, by omega, by omega, e7, by rw [show ((q + cs.size : Nat) : Int) = (q : Int) + cs.size by omega]; exact unhide hA6, unhide hN6, (unhide hw6).drew⟩
            · have hno : ∀ c, C[k]? = some c → ¬ c.n = i := fun c h1 h2 => hex ⟨c, h1, h2⟩
              replace hno := hide hno
              by_cases hkn : k < nC
              · obtain ⟨c, hc⟩ : ∃ c, C[k]? = some c := ⟨C[k]'(by omega), List.getElem?_eq_getElem _⟩
                obtain ⟨gc, rfl, hat⟩ := unhide hCm k c hc
                obtain ⟨_, _, _, x3⟩ := hat wr hw
                have hne : (c.n == (i : Int)) = false := by simpa using unhide hno c hc
                have hne2 : ¬ c.n = (i : Int) := unhide hno c hc
                have hkz : (k : Int) < nC := by omega
                clear hat hex
                replace hc := hide hc
                go_wp2
                go_meet
                case rel => exact ⟨k, a, ln, rfl, by omega, ha, hln, hcv, hno, hA, hN, hw⟩
              · have hkz : ¬ (k : Int) < nC := by omega
                clear hex
                go_wp2
                go_meet
                case rel => exact ⟨k, a, ln, rfl, by omega, ha, hln, hcv, hno, hA, hN, hw⟩
        case rest =>
          clear hk ha hln hcv hA hN hw
          obtain ⟨k, a, ln, rfl, hk, ha, hln, hcv, hno, hA, hN, hw⟩ := hcut
          obtain ⟨g', rfl⟩ : ∃ g', gk = g' + 1 := ⟨gk - 1, by omega⟩
          obtain ⟨t, ht, hcase⟩ := cov_tok (unhide hcv) (unhide hno) (by omega)
          obtain ⟨gl, rfl, hat⟩ := unhide hT i t ht
          obtain ⟨tk, cs, tp, tl, tq⟩ := t
          dsimp only at *
          clear hno
          rcases hcase with ⟨rfl, rfl, rfl, e4, e5, u, e6, e7, e8⟩ | ⟨rfl, q, e1, e2, e3, e4, e5, e6, e7⟩
          · obtain ⟨gl2, hgl, hau⟩ := unhide hT (i - 1) u e6
            obtain rfl : gl = gl2 := by simpa using hgl
            obtain ⟨uk, us, up, ul, uq⟩ := u
            have HE := fun W => rEnds_any ⟨uk, us, up, ul, uq⟩ W
            rw [e7] at HE
            unfold Tk.val at HE
            dsimp only at HE
            replace HE := hide HE
            obtain ⟨x0, x1, x2, x3, x4⟩ := hat wc hw
            obtain ⟨i1, hi1⟩ : ∃ i1, i - 1 = i1 := ⟨_, rfl⟩
            rw [hi1] at hau
            obtain ⟨z0, z1, z2, z3, z4⟩ := hau wc hw
            dsimp only at x0 x1 x2 x3 x4 z0 z1 z2 z3 z4
            have cA := hA.cell
            have hi0 : ¬ (i : Int) = 0 := by omega
            have hi0n : ¬ i = 0 := by omega
            have hi0b : ((i : Int) == 0) = false := beq_false_of_ne hi0
            have hi0d : (i == 0) = false := beq_false_of_ne hi0n
            have hpa : ¬ tp < (a : Int) := by omega
            have hm1 : IntKind.i64.wrap ((i : Int) - 1) = (i1 : Int) := by rw [wrapI _ (by omega) (by omega)]; omega
            have hm2 : (i : Int) - 1 = (i1 : Int) := by omega
            have hi1z : (i1 : Int) < nL := by omega
            replace hat := hide hat
            replace hau := hide hau
            replace e8 := hide e8
            clear e4 e6 ht hgl hcv hi1
            go_upto_region 19 with fail
            refine wp_region_narrow 33 (by kernel_rfl) rfl (by kernel_rfl) ?_
            simp only [List.take_succ_cons, List.take_zero]
            repeat (go_big_quiet_step (fail))
            refine wpQuiet_nil ?_
            intro nq K hK
            rw [if_pos (by kernel_rfl)]
            replace hA : One (wc.drewN nq) ga 3 (.int .i64 a) := hA
            replace hN : One (wc.drewN nq) (ga + 1) 3 (.int .i64 ln) := hN
            replace hw : Below ga W2 (wc.drewN nq) := below_drewN hw _
            clear x0 x1 x2 x3 x4 z0 z1 z2 z3 z4 cA
            generalize wc.drewN nq = W at *
            go_simp
            refine (unhide HE W).mono ?_
            rintro e W5 ⟨rfl, hb5⟩
            have hA5 : One W5 ga 3 (.int .i64 a) := (hb5.block _ hA.lt).trans hA
            have hN5 : One W5 (ga + 1) 3 (.int .i64 ln) := (hb5.block _ hN.lt).trans hN
            have hw5 : Below ga W2 W5 := hw.trans (hb5.mono (Nat.le_of_lt hA.lt))
            clear hA hN hw hb5
            go_simp
            refine unhide hK _ _ ?_
            clear hK K HE
            simp only [List.drop_succ_cons, List.drop_zero]
            try simp only [List.getElem_toArray, List.getElem_cons_succ, List.getElem_cons_zero, Act.put, List.setIfInBounds_toArray, List.set_cons_zero, List.set_cons_succ]
            repeat (go_big_quiet_step (fail))
            refine wpQuiet_nil ?_
            rintro _ ⟨nq2, rfl⟩
            replace hA5 : One (W5.drewN nq2) ga 3 (.int .i64 a) := hA5
            replace hN5 : One (W5.drewN nq2) (ga + 1) 3 (.int .i64 ln) := hN5
            replace hw5 : Below ga W2 (W5.drewN nq2) := below_drewN hw5 _
            generalize W5.drewN nq2 = W6 at *
            go_wp2
            go_roundg g'
            case measure => omega
            case rel => exact ⟨i + 1, k, a, ln, rfl, by go_num, by omega, hk, ha, hln, e8, hA5, hN5, hw5⟩
          · have hnl : nls s a q ≤ q - a := nls_le s a (q - a)
            have HK := hide (fun (W : World) (hA : One W ga 3 (.int .i64 a)) (hN : One W (ga + 1) 3 (.int .i64 ln)) (hw : Below ga W2 W) => skip_any s W ga ga gs (ga + 1) a q ln (by omega) hgs (Nat.le_refl _) (by omega) (by omega) hA hN (by rw [hw.cell (by exact hgs)]; exact cS) e2 (by omega) (by omega) e3)
            have hml : ln + nls s a q ≤ q + 1 := by omega
            clear hnl e3 hcv
            generalize ln + nls s a q = m at *
            obtain rfl : tp = q := e1
            obtain rfl : tl = m := e4
            have hm0 : ((m : Int) != (m : Int)) = false := by simp
            have hm1 : ¬ ((s.size : Int) < (q : Int) + cs.size) := by omega
            have hm2 : (cs.toList != cs.toList) = false := by simp
            have haq : ¬ ((q : Int) < a) := by omega
            have hadd : IntKind.i64.wrap ((q : Int) + cs.size) = (q : Int) + cs.size := wrapI _ (by omega) (by omega)
            obtain ⟨x0, x1, x2, x3, x4⟩ := hat wc hw
            dsimp only at x0 x1 x2 x3 x4
            replace hat := hide hat
            replace e7 := hide e7
            have cA := hA.cell
            clear ht
            go_upto_region 21 with fail
            refine reg21_any s cs W2 wc ga gs gl nL cl i a ln q m tk hl hgs cS hlt hl1 hl2 e2 e5 e6 hml hln (unhide hat) (unhide HK) hA hN hw ?_
            intro u178 u179 u180 u181 u182 u183 u184 u185 u186 u187 u188 u189 u190 u191 u192 u193 u194 u195 u196 u197 u198 u199 u200 u201 u202 u203 u204 u205 u206 u207 u208 u209 u210 u211 u212 u213 u214 u215 u216 u217 u218 u219 u220 u221 u222 u223 u224 u225 u226 u227 u228 u229 u230 u231 u232 u233 u234 u235 u236 u237 u238 u239 u240 u241 u242 u243 u244 u245 u246 W6 hA5 hN5 hw5
            clear x0 x1 x2 x3 x4 cA hA hN hw HK
            obtain ⟨y0, y1, y2, y3, y4⟩ := unhide hat W6 hw5
            dsimp only at y0 y1 y2 y3 y4
            have cA5 := hA5.cell
            have fA5 := hA5.frozen
            have hA6 := hide (hA5.set (.int .i64 ((q : Int) + cs.size)))
            have hN6 := hide (hN5.other (g' := ga) (by omega) (.int .i64 ((q : Int) + cs.size)))
            have hw6 := hide (hw5.setCell (p := ⟨ga, 0, none⟩) (Nat.le_refl _) (.int .i64 ((q : Int) + cs.size)))
            clear hA5 hN5 hw5 y2 y3
            go_upto_region 23 with fail
            go_region
            go_wp2
            go_roundg g'
            case measure => omega
            case rel => exact ⟨i + 1, k, q + cs.size, m, rfl, by go_num, by omega, hk, by omega, by omega, e7, by rw [show ((q + cs.size : Nat) : Int) = (q : Int) + cs.size by omega]; exact unhide hA6, unhide hN6, (unhide hw6).drew⟩
      · obtain ⟨d1, d2, d3, t, d4, d5⟩ := cov_done (unhide hcv) (by omega)
        obtain ⟨gl, rfl, hat⟩ := unhide hT _ t d4
        obtain ⟨x0, _, _, _, _⟩ := hat wr hw
        rw [d5] at x0
        rw [hnL] at x0
        obtain rfl : k = nC := by omega
        obtain rfl : a = s.size := d2
        obtain rfl : i = nL := by omega
        have hlz : ¬ (i : Int) < i := by omega
        have hip : 0 < i := by omega
        clear hat hT hCm hcv hi d4 d1 hnC hnL d3
        go_wp2
        go_ret
        exact ⟨rfl, (unhide hgs') ▸ below3 (unhide hb3) ((unhide hga).symm ▸ hw)⟩
  · clear hcov hl3 hc3
    go_wp2
    go_ret
    exact ⟨rfl, hb3⟩
end Go.Proofs.Ytakllllnpdnpdaa
