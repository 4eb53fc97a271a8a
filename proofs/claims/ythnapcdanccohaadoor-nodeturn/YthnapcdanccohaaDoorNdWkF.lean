/-
  The program's walk with Find's function.
-/
import Derived.Test.YthnapcdanccohaaDoorNdPile
import Derived.Deep.DeepCutAuto
import Derived.Deep.RegionHeld
namespace Go.Proofs.YthnapcdanccohaaDoor
open Go.RowKit Go.Lib Go.Sort
set_option linter.unusedSimpArgs false
set_option linter.unusedVariables false
set_option maxHeartbeats 8000000 in
set_option maxRecDepth 100000 in
theorem walkF_any {σ : Type} (p1 p2 : Value) (A : Int → Bool) (R : σ → Nd → Nat → σ → Prop) (I : σ → World → Prop) (C : σ → Nat → Prop) (W0 : World) (s0 : σ)
    (hI : ∀ s w w', I s w → w.heap.size ≤ w'.heap.size → (∀ g, g < W0.heap.size ∨ C s g → w'.heap[g]? = w.heap[g]?) → I s w')
    (hC : ∀ s w g, I s w → C s g → W0.heap.size ≤ g ∧ g < w.heap.size)
    (hF : ∀ s w k t a n cap c (d : Nat), I s w → Sl w a n cap c → d ≤ 3000000 → Below W0.heap.size W0 w → c.size ≤ 1000000 → Sl W0 a n cap c → (∃ m, Done R s0 s m ∧ m ≤ 2000002) → Calls Tryd.prog 29 #[.agg #[.int .i64 k, .int .i64 t, .slice a n cap], .int .i64 d, p1, p2] w fun e w' => e = .returned (.bool (A k)) ∧ ∃ s', R s ⟨k, t, c⟩ d s' ∧ I s' w' ∧ Moves (C s) (C s') w w')
    (k t : Int) (a : Option Addr) (n cap : Nat) (c : F) (w : World) (hw : Below W0.heap.size W0 w) (h0 : I s0 w) (hc : Sl W0 a n cap c) (hN : c.size ≤ 1000000) :
    Calls Tryd.prog 24 #[.agg #[.int .i64 k, .int .i64 t, .slice a n cap], .func (.func 29) #[] #[p1, p2]] w fun e w' => e = .returned (.tuple #[]) ∧ ∃ s', RS R s0 (visN A ⟨k, t, c⟩) s' ∧ I s' w' ∧ Moves (C s0) (C s') w w' := by
  have hbA := below_alloc w (.cells #[.int .i64 k, .int .i64 t, .slice a n cap] 26 (0, 0))
  have x1 := boxN_new w k t a n cap
  have hw1 := hw.alloc hw.size (.cells #[.int .i64 k, .int .i64 t, .slice a n cap] 26 (0, 0))
  have hF1 := hide (hF s0 _ k t a n cap c 1 (hI _ _ _ h0 hbA.size (fun g hg => hbA.block g (hg.elim (fun hg => by (have := hw.size; omega)) (fun hg => by exact (hC _ _ _ h0 hg).2)))) (hc.below hw1) (by omega) hw1 hN hc ⟨0, done_nil R s0, by omega⟩)
  have hlt1 : w.heap.size < (w.alloc (.cells #[.int .i64 k, .int .i64 t, .slice a n cap] 26 (0, 0))).heap.size := by simp
  replace hF := hide hF
  replace hI := hide hI
  replace hC := hide hC
  have hcap := hc.2.2.1
  replace hc := hide hc
  replace hw := hide hw
  replace h0 := hide h0
  replace x1 := hide x1
  obtain ⟨W1, hW1⟩ : ∃ W1, w.alloc (.cells #[.int .i64 k, .int .i64 t, .slice a n cap] 26 (0, 0)) = W1 := ⟨_, rfl⟩
  rw [hW1] at hbA x1 hw1 hF1 hlt1
  replace hW1 := hide hW1
  obtain ⟨y0, y1, y2⟩ := (show BoxN (w.alloc (.cells #[.int .i64 k, .int .i64 t, .slice a n cap] 26 (0, 0))) w.heap.size k t a n cap by rw [unhide hW1]; exact unhide x1)
  go_enter Tryd.func24, Tryd.ntmps24
  go_wp2_with fail
  rw [unhide hW1]
  refine (unhide hF1).mono ?_
  rintro e W2 ⟨rfl, s1, hR1, hI1, hM1⟩
  have hM01 : Moves (C s0) (C s1) w W2 := by
    refine ⟨hM1.os.trans hbA.os, hM1.tape.trans hbA.tape, hM1.output.trans hbA.output, Nat.le_trans hbA.size hM1.size, fun g hg hcg => ?_, fun g hg => ?_⟩
    · rw [hM1.block g (Nat.lt_of_lt_of_le hg hbA.size) hcg, hbA.block g hg]
    · rcases hM1.grows g hg with h | h
      · exact .inl h
      · exact .inr (Nat.le_trans hbA.size h)
  have hnc : ¬ C s0 w.heap.size := fun h => by have := (unhide hC s0 w _ (unhide h0) h).2; omega
  have x2 : BoxN W2 w.heap.size k t a n cap := by
    have hh := hM1.block w.heap.size hlt1 hnc
    obtain ⟨q0, q1, q2⟩ := unhide x1
    exact ⟨by unfold World.cell? at *; dsimp only at *; rw [hh]; exact q0, by unfold World.cell? at *; dsimp only at *; rw [hh]; exact q1, by unfold World.cell? at *; dsimp only at *; rw [hh]; exact q2⟩
  obtain ⟨q0, q1, q2⟩ := x2
  have hC0 : ∀ g, C s0 g → W0.heap.size ≤ g := fun g hg => (unhide hC s0 w g (unhide h0) hg).1
  have hws := (unhide hw).size
  clear y0 y1 y2 hF1 x1
  cases hA : A k with
  | false =>
    go_wp2
    refine bodyPost_ret (results_none rfl _ _ _) rfl ?_
    exact ⟨rfl, s1, by simp only [visN, hA]; exact ⟨s1, hR1, rfl⟩, hI1, hM01⟩
  | true =>
    have hgo : Hid (∀ z, RS R s1 (rem A [c]) z → RS R s0 (visN A ⟨k, t, c⟩) z) := hide (fun z hz => by
      simp only [visN, hA, if_true]
      exact ⟨s1, hR1, by simpa [rem] using hz⟩)
    have hr0 := rowP_new W2 (.slice a n cap)
    have hM02 := moves_of hM01 ((below_alloc W2 (.cells #[.slice a n cap] 24 (0, 0))).mono hM01.size)
    have hI2 := unhide hI s1 _ _ hI1 (below_alloc W2 (.cells #[.slice a n cap] 24 (0, 0))).size (fun g hg => (below_alloc W2 _).block g (hg.elim (fun hg => by (have := hM01.size; omega)) (fun hg => by exact (unhide hC _ _ _ hI1 hg).2)))
    have hnc2 : ¬ C s1 W2.heap.size := fun h => by have := (unhide hC _ _ _ hI1 h).2; omega
    have hgp : w.heap.size ≤ W2.heap.size := hM01.size
    replace hA := hide hA
    replace hR1 := hide hR1
    clear hI1 hM1 hM01
    have hmu : mu [c] ≤ 2000001 := by simp only [mu]; omega
    have hdn := hide (Done.snoc (done_nil R s0) (unhide hR1))
    go_upto_region 3 with fail
    generalize W2.alloc (.cells #[.slice a n cap] 24 (0, 0)) = W3 at *
    generalize W2.heap.size = gp at *
    clear q0 q1 q2 hlt1 hnc hbA
    replace hgo := hide (unhide hgo)
    go_wp2
    go_loopg [4, 5, 6, 7] (mu [c]) (fun gf s4 s5 s6 s7 wx => ∃ (s : σ) (ts : List Value) (fs : List F) (gp cp m dn : Nat), s4 = .slice (some ⟨gp, 0, none⟩) m cp ∧ m = fs.length ∧ mu fs ≤ gf ∧ gf ≤ 2000001 ∧ RowP wx gp cp ts.reverse ∧ w.heap.size ≤ gp ∧ ¬ C s gp ∧ Stk W0 ts fs ∧ (∀ f ∈ fs, f.size ≤ 1000000) ∧ (∀ z, RS R s (rem A fs) z → RS R s0 (visN A ⟨k, t, c⟩) z) ∧ Done R s0 s dn ∧ dn + mu fs ≤ 2000002 ∧ I s wx ∧ Moves (C s0) (C s) w wx)
    case atStart => exact ⟨s1, [.slice a n cap], [c], gp, 1, 1, 0 + 1, rfl, rfl, Nat.le_refl _, hmu, hr0, hgp, hnc2, ⟨⟨a, n, cap, rfl, unhide hc⟩, trivial⟩, fun f hf => by rw [List.mem_singleton] at hf; subst hf; exact hN, unhide hgo, unhide hdn, by omega, hI2, hM02⟩
    case round =>
      clear hr0 hgp hnc2 hI2 hM02 hgo hdn
      obtain ⟨s, ts, fs, gp, cp, m, dn, rfl, hm, hmuf, hgf, hr, hgw, hncs, hst, hsz, hgo, hdn, hdl, hIs, hMs⟩ := hrel
      replace hdn := hide hdn
      cases fs with
      | nil =>
        obtain rfl : m = 0 := hm
        have hz := hgo s rfl
        replace hgo := hide hgo
        go_wp2
        go_end0
        exact ⟨rfl, s, hz, hIs, hMs⟩
      | cons f rest =>
        cases ts with
        | nil => exact hst.elim
        | cons t0 ts =>
          obtain ⟨⟨a1, n1, cap1, rfl, hf1⟩, hst'⟩ := hst
          have hlt := hst'.len
          obtain ⟨m', hm'⟩ : ∃ m', rest.length = m' := ⟨_, rfl⟩
          rw [hm'] at hlt
          obtain rfl : m = m' + 1 := by rw [hm, List.length_cons, hm']
          clear hm
          have hroom := hr.room
          rw [List.length_reverse, List.length_cons, hlt] at hroom
          have hmlen := mu_len (f :: rest)
          rw [List.length_cons, hm'] at hmlen
          unfold maxLen at hroom
          have hlastz : IntKind.i64.wrap (((m' + 1 : Nat) : Int) - 1) = (m' : Int) := by rw [wrapI _ (by omega) (by omega)]; omega
          have hlastz2 : ((m' : Int) + 1) - 1 = m' := by omega
          have hm1 : (0 : Int) < ((m' + 1 : Nat) : Int) := by omega
          have hm1' : (0 : Int) < (m' : Int) + 1 := by omega
          have hcell := hr.cell ts.length (by simp)
          rw [rev_last, hlt] at hcell
          have hfz := hr.frozen m'
          have htake := hide (by have := hr.take ts.length; rw [rev_take] at this; exact this)
          have hBw := hide ((unhide hw).trans (hMs.below hC0 hws))
          have hsr : ∀ f ∈ rest, f.size ≤ 1000000 := fun f hf => hsz f (List.mem_cons_of_mem _ hf)
          have hsf := hsz f List.mem_cons_self
          replace hMs := hide hMs
          replace hIs := hide hIs
          clear hsz
          cases f with
          | nil =>
            obtain rfl : n1 = 0 := hf1.1
            rw [mu_nil] at hmuf hdl
            obtain ⟨g', rfl⟩ : ∃ g', gk = g' + 1 := ⟨gk - 1, by omega⟩
            have hgo' := hide (fun z hz => hgo z (by rw [rem_nil]; exact hz))
            replace hgo := hide hgo
            replace hst' := hide hst'
            clear hf1 hr
            go_wp2
            go_roundg g'
            case measure => omega
            case rel => exact ⟨s, ts, rest, gp, cp, m', dn, rfl, hm'.symm, by omega, by omega, unhide htake, hgw, hncs, unhide hst', hsr, unhide hgo', unhide hdn, by omega, unhide hIs, unhide hMs⟩
          | cons k1 t1 c1 r1 =>
            obtain ⟨e1, ⟨e2, _⟩, e3, h3⟩ := id hf1
            simp only [F.len] at e1
            subst e1
            obtain ⟨g1, o1, rfl, htag, z0, z1, ⟨a2, n2, cap2, z2, hs2⟩, _⟩ := h3 (by omega)
            replace hs2 : Sl W0 a2 n2 cap2 c1 := hs2
            obtain ⟨_, _, e, _, htl⟩ := hf1.tail
            injection e with e
            injection e with e e'
            subst e e'
            replace z0 := ((unhide hBw).cell (p := ⟨g1, o1, none⟩) htag.lt).trans z0
            replace z1 := ((unhide hBw).cell (p := ⟨g1, o1 + 1, none⟩) htag.lt).trans z1
            replace z2 := ((unhide hBw).cell (p := ⟨g1, o1 + 2, none⟩) htag.lt).trans z2
            have hmc := mu_cons A k1 t1 c1 r1 rest
            obtain ⟨g', rfl⟩ : ∃ g', gk = g' + 1 := ⟨gk - 1, by omega⟩
            have hrem := hide (rem_cons A k1 t1 c1 r1 rest)
            unfold maxLen at e3
            have hr1z : ¬ ((r1.len : Int) + 1 = 0) := by omega
            have hr1n : ¬ (r1.len + 1 = 0) := by omega
            have hr1b : (((r1.len : Int) + 1) == 0) = false := by simpa using hr1z
            clear h3 hf1
            by_cases hcap1 : cap1 = 1
            · subst hcap1
              have hrl : r1.len = 0 := by omega
              have htl' : Sl W0 (some ⟨g1, o1, none⟩) 0 0 r1 := by have := htl (o1) (.inr rfl); rw [hrl] at this; exact this
              have hrs := hr.set ts.length (.slice (some ⟨g1, o1, none⟩) 0 0)
              rw [rev_set, hlt] at hrs
              have hszs : (wr.setCell ⟨gp, m', none⟩ (.slice (some ⟨g1, o1, none⟩) 0 0)).heap.size = wr.heap.size := by simp
              have hrb := hrs.same (w' := (wr.setCell ⟨gp, m', none⟩ (.slice (some ⟨g1, o1, none⟩) 0 0)).alloc (.cells #[.int .i64 k1, .int .i64 t1, .slice a2 n2 cap2] 26 (0, 0))) (Below.heap_alloc _ _ _ (by rw [hszs]; exact hr.lt))
              have hgps : gp < wr.heap.size := hr.lt
              have hxb := boxN_new (wr.setCell ⟨gp, m', none⟩ (.slice (some ⟨g1, o1, none⟩) 0 0)) k1 t1 a2 n2 cap2
              rw [hszs] at hxb
              have hbb : RowKit.Below w.heap.size wr ((wr.setCell ⟨gp, m', none⟩ (.slice (some ⟨g1, o1, none⟩) 0 0)).alloc (.cells #[.int .i64 k1, .int .i64 t1, .slice a2 n2 cap2] 26 (0, 0))) := ((Below.refl _ _).setCell (p := ⟨gp, m', none⟩) hgw _).alloc (by rw [hszs]; exact (unhide hMs).size) _
              have hMb := moves_of (unhide hMs) hbb
              have hblk : ∀ g, g < wr.heap.size → g ≠ gp → ((wr.setCell ⟨gp, m', none⟩ (.slice (some ⟨g1, o1, none⟩) 0 0)).alloc (.cells #[.int .i64 k1, .int .i64 t1, .slice a2 n2 cap2] 26 (0, 0))).heap[g]? = wr.heap[g]? := fun g hg hne => by
                rw [Below.heap_alloc _ _ _ (by rw [hszs]; exact hg), Below.heap_setCell _ _ _ g hne]
              have hIb := unhide hI s _ _ (unhide hIs) hbb.size (fun g hg => hblk g (hg.elim (fun hg => by (have := (unhide hMs).size; omega)) (fun hg => by exact (unhide hC s wr g (unhide hIs) hg).2)) (fun e => hg.elim (fun hg => by omega) (fun hg => by exact hncs (e ▸ hg))))
              have hBb := (unhide hw).trans (hMb.below hC0 hws)
              have hszb : wr.heap.size < ((wr.setCell ⟨gp, m', none⟩ (.slice (some ⟨g1, o1, none⟩) 0 0)).alloc (.cells #[.int .i64 k1, .int .i64 t1, .slice a2 n2 cap2] 26 (0, 0))).heap.size := by simp
              have hFc := hide (unhide hF s _ k1 t1 a2 n2 cap2 c1 (m' + 2) hIb (hs2.below hBb) (by omega) hBb (by simp only [F.size] at hsf; omega) hs2 ⟨dn, unhide hdn, by omega⟩)
              rw [show ((m' + 2 : Nat) : Int) = (m' : Int) + 1 + 1 by omega] at hFc
              have hCs := hide (fun g hg => (unhide hC s wr g (unhide hIs) hg).2)
              have hrp := hr.frozen m'
              have hxb' := hide hxb
              replace hrb := hide hrb
              replace htl := hide htl
              replace htl' := hide htl'
              replace hs2 := hide hs2
              replace hst' := hide hst'
              replace htake := hide htake
              replace hgo := hide hgo
              replace hblk := hide hblk
              clear hr hxb hrs
              go_upto_region 10 with fail
              replace hMb := hide hMb
              replace hIb := hide hIb
              replace hBb := hide hBb
              replace hbb := hide hbb
              obtain ⟨gb, hgb⟩ : ∃ gb, wr.heap.size = gb := ⟨_, rfl⟩
              rw [hgb] at hgps hxb' hszb hblk hCs ⊢
              replace hgb := hide hgb
              generalize (wr.setCell ⟨gp, m', none⟩ (.slice (some ⟨g1, o1, none⟩) 0 0)).alloc (.cells #[.int .i64 k1, .int .i64 t1, .slice a2 n2 cap2] 26 (0, 0)) = Wb at *
              clear hrp hfz hcell z0 z1 z2 hrl hszs
              obtain ⟨y0, y1, y2⟩ := unhide hxb'
              go_wp2_with fail
              refine (unhide hFc).mono ?_
              rintro e W6 ⟨rfl, s', hR', hI', hM'⟩
              have hgpB : gp < Wb.heap.size := by omega
              have hr6 := (unhide hrb).same (w' := W6) (hM'.block gp hgpB hncs)
              have hncb : ¬ C s gb := fun h => by have := unhide hCs _ h; omega
              have hbk := hM'.block gb hszb hncb
              have x6 : BoxN W6 gb k1 t1 a2 n2 cap2 := by
                obtain ⟨q0, q1, q2⟩ := unhide hxb'
                exact ⟨by unfold World.cell? at *; dsimp only at *; rw [hbk]; exact q0, by unfold World.cell? at *; dsimp only at *; rw [hbk]; exact q1, by unfold World.cell? at *; dsimp only at *; rw [hbk]; exact q2⟩
              have hM6 := (unhide hMb).trans hM'
              have hnc6 : ¬ C s' gp := fun h => by
                rcases hM'.grows gp h with h1 | h1
                · exact hncs h1
                · omega
              have hsz6 := hM'.size
              clear y0 y1 y2 hFc hbk
              have hdn' := hide ((unhide hdn).snoc hR')
              cases hA1 : A k1 with
              | false =>
                have hdl6 : dn + 1 + mu (r1 :: rest) ≤ 2000002 := by have := hmc; rw [hA1] at this; simp only [Bool.false_eq_true, if_false] at this; omega
                have hmu' : mu (r1 :: rest) ≤ g' := by have := hmc; rw [hA1] at this; simp only [Bool.false_eq_true, if_false] at this; omega
                have hgo' : Hid (∀ z, RS R s' (rem A (r1 :: rest)) z → RS R s0 (visN A ⟨k, t, c⟩) z) := hide (fun z hz => unhide hgo z (by
                  have := unhide hrem
                  rw [hA1] at this
                  simp only [Bool.false_eq_true, if_false] at this
                  rw [this, hm']
                  exact ⟨s', hR', hz⟩))
                have hsz' : ∀ f ∈ r1 :: rest, f.size ≤ 1000000 := fun f hf => by
                  rcases List.mem_cons.1 hf with rfl | hf
                  · simp only [F.size] at hsf; omega
                  · exact hsr f hf
                have hst6 : Hid (Stk W0 (.slice (some ⟨g1, o1, none⟩) 0 0 :: ts) (r1 :: rest)) := hide ⟨⟨_, _, _, rfl, unhide htl'⟩, unhide hst'⟩
                have hm6 : m' + 1 = (r1 :: rest).length := by rw [List.length_cons, hm']
                replace hm6 := hide hm6
                replace hA1 := hide hA1
                replace hsz' := hide hsz'
                go_wp2
                go_roundg g'
                case measure => omega
                case rel => exact ⟨s', _, _, gp, cp, m' + 1, dn + 1, rfl, unhide hm6, hmu', by omega, hr6, hgw, hnc6, unhide hst6, unhide hsz', unhide hgo', unhide hdn', hdl6, hI', hM6⟩
              | true =>
                have hdl6 : dn + 1 + mu (c1 :: r1 :: rest) ≤ 2000002 := by have := hmc; rw [hA1] at this; simp only [if_true] at this; omega
                have hmu' : mu (c1 :: r1 :: rest) ≤ g' := by have := hmc; rw [hA1] at this; simp only [if_true] at this; omega
                have hgo' : Hid (∀ z, RS R s' (rem A (c1 :: r1 :: rest)) z → RS R s0 (visN A ⟨k, t, c⟩) z) := hide (fun z hz => unhide hgo z (by
                  have := unhide hrem
                  rw [hA1] at this
                  simp only [if_true] at this
                  rw [this, hm']
                  exact ⟨s', hR', hz⟩))
                have hsz' : ∀ f ∈ c1 :: r1 :: rest, f.size ≤ 1000000 := fun f hf => by
                  simp only [F.size] at hsf
                  rcases List.mem_cons.1 hf with rfl | hf
                  · omega
                  rcases List.mem_cons.1 hf with rfl | hf
                  · omega
                  · exact hsr f hf
                have hst6 : Hid (Stk W0 (.slice a2 n2 cap2 :: .slice (some ⟨g1, o1, none⟩) 0 0 :: ts) (c1 :: r1 :: rest)) := hide ⟨⟨_, _, _, rfl, unhide hs2⟩, ⟨_, _, _, rfl, unhide htl'⟩, unhide hst'⟩
                have hm6 : m' + 1 + 1 = (c1 :: r1 :: rest).length := by rw [List.length_cons, List.length_cons, hm']
                have hl6 : (Value.slice (some ⟨g1, o1, none⟩) 0 0 :: ts).reverse.length = m' + 1 := by rw [List.length_reverse, List.length_cons, hlt]
                have hown6 := hr6.own (base := w.heap.size) hgw
                rw [hl6] at hown6
                have hown7 := World.ownsRow.alloc hown6 (.cells #[.slice a2 n2 cap2] 24 (0, 0))
                have hnews : ∀ (j : Nat) (u : Value), [Value.slice a2 n2 cap2][j]? = some u → (W6.alloc (.cells #[.slice a2 n2 cap2] 24 (0, 0))).cell? (Addr.add ⟨W6.heap.size, 0, none⟩ j) = some u := by
                  intro j u hj
                  match j, hj with
                  | 0, hj => simp at hj; subst hj; simp [Addr.add]
                have hIC6 := hide (fun g hg => (unhide hC s' W6 g hI' hg).2)
                have hI7 := unhide hI s' _ _ hI' (below_alloc W6 (.cells #[.slice a2 n2 cap2] 24 (0, 0))).size (fun g hg => (below_alloc W6 _).block g (hg.elim (fun hg => by (have := hM6.size; omega)) (fun hg => by exact unhide hIC6 g hg)))
                have hM7 := moves_of hM6 ((below_alloc W6 (.cells #[.slice a2 n2 cap2] 24 (0, 0))).mono hM6.size)
                have hw6 := hM6.size
                obtain ⟨y0, y1, y2⟩ := x6
                replace hm6 := hide hm6
                replace hA1 := hide hA1
                replace hsz' := hide hsz'
                replace hl6 := hide hl6
                replace hI' := hide hI'
                replace hM6 := hide hM6
                replace hI7 := hide hI7
                replace hM7 := hide hM7
                replace hr6 := hide hr6
                replace hown6 := hide hown6
                replace hown7 := hide hown7
                replace hnews := hide hnews
                clear hM' hI'
                obtain ⟨i0, hi, hz0, hz1, hz2⟩ := info_parts Tryd.info24
                have hinf := hide (And.intro hi (And.intro hz0 (And.intro hz1 hz2)))
                clear hi hz0 hz1 hz2
                go_wp2_with (at_builtin; refine wpList_append_lies _ rfl _ _ 51 rfl w.heap.size 24 i0 (.slice none 0 0) 1 24 Tryd.underlying51 (unhide hinf).1 (unhide hinf).2.1 (unhide hinf).2.2.1 (unhide hinf).2.2.2 rfl (by decide) _ (m' + 1) _ rfl (unhide hown7) ⟨W6.heap.size, 0, none⟩ 1 1 [.slice a2 n2 cap2] rfl rfl (unhide hnews) ?h1 (by omega) (by unfold maxLen; omega) (by omega) (by simp; omega) _ rfl ?_; case h1 => (intro u hu; rw [List.mem_singleton] at hu; subst hu; rfl))
                intro gq cq W8 hown8 hg8 hat8 hlt8
                obtain ⟨hr8, hl8⟩ := RowP.of hown8
                have hs7 : (W6.alloc (.cells #[.slice a2 n2 cap2] 24 (0, 0))).heap.size = W6.heap.size + 1 := by simp
                have hgq : w.heap.size ≤ gq ∧ ¬ C s' gq := by
                  rcases hat8 with h | h
                  · have : gq = gp := by simpa [Value.ownBlock] using h.symm
                    subst this
                    exact ⟨hgw, hnc6⟩
                  · have h : gq = W6.heap.size + 1 := h
                    exact ⟨by omega, fun hh => by have := unhide hIC6 _ hh; omega⟩
                have hI8 := hide (unhide hI s' _ W8 (unhide hI7) hg8.size (fun g hg => hg8.block g (by rw [hs7]; exact hg.elim (fun hg => by omega) (fun hg => by have := unhide hIC6 g hg; omega)) (fun e => (by
                  have : gp = g := by simpa [Value.ownBlock] using e.symm
                  subst this
                  rcases hg with hg | hg
                  · omega
                  · exact hnc6 hg))))
                have hb8 : RowKit.Below w.heap.size (W6.alloc (.cells #[.slice a2 n2 cap2] 24 (0, 0))) W8 := (Below.refl _ _).grown hg8 (by simp; omega) (fun q hq => by
                  have : gp = q := by simpa [Value.ownBlock] using hq
                  subst this; exact hgw)
                have hM8 := hide (moves_of (unhide hM7) hb8)
                rw [show ts.reverse ++ [Value.slice (some ⟨g1, o1, none⟩) 0 0, .slice a2 n2 cap2] = (.slice a2 n2 cap2 :: .slice (some ⟨g1, o1, none⟩) 0 0 :: ts).reverse by simp] at hr8
                replace hr8 := hide hr8
                clear hown8 hg8 hat8 hl8 hb8 hs7
                go_wp2
                go_roundg g'
                case measure => omega
                case rel => exact ⟨s', _, _, gq, cq, m' + 1 + 1, dn + 1, rfl, unhide hm6, hmu', by omega, unhide hr8, hgq.1, hgq.2, unhide hst6, unhide hsz', unhide hgo', unhide hdn', hdl6, unhide hI8, unhide hM8⟩
            · have hrl : r1.len = r1.len := by rfl
              have htl' : Sl W0 (some ⟨g1, o1 + 3, none⟩) r1.len (cap1 - 1) r1 := by have := htl (o1 + 3) (.inl rfl); rw [hrl] at this; exact this
              have hrs := hr.set ts.length (.slice (some ⟨g1, o1 + 3, none⟩) r1.len (cap1 - 1))
              rw [rev_set, hlt] at hrs
              have hszs : (wr.setCell ⟨gp, m', none⟩ (.slice (some ⟨g1, o1 + 3, none⟩) r1.len (cap1 - 1))).heap.size = wr.heap.size := by simp
              have hrb := hrs.same (w' := (wr.setCell ⟨gp, m', none⟩ (.slice (some ⟨g1, o1 + 3, none⟩) r1.len (cap1 - 1))).alloc (.cells #[.int .i64 k1, .int .i64 t1, .slice a2 n2 cap2] 26 (0, 0))) (Below.heap_alloc _ _ _ (by rw [hszs]; exact hr.lt))
              have hgps : gp < wr.heap.size := hr.lt
              have hxb := boxN_new (wr.setCell ⟨gp, m', none⟩ (.slice (some ⟨g1, o1 + 3, none⟩) r1.len (cap1 - 1))) k1 t1 a2 n2 cap2
              rw [hszs] at hxb
              have hbb : RowKit.Below w.heap.size wr ((wr.setCell ⟨gp, m', none⟩ (.slice (some ⟨g1, o1 + 3, none⟩) r1.len (cap1 - 1))).alloc (.cells #[.int .i64 k1, .int .i64 t1, .slice a2 n2 cap2] 26 (0, 0))) := ((Below.refl _ _).setCell (p := ⟨gp, m', none⟩) hgw _).alloc (by rw [hszs]; exact (unhide hMs).size) _
              have hMb := moves_of (unhide hMs) hbb
              have hblk : ∀ g, g < wr.heap.size → g ≠ gp → ((wr.setCell ⟨gp, m', none⟩ (.slice (some ⟨g1, o1 + 3, none⟩) r1.len (cap1 - 1))).alloc (.cells #[.int .i64 k1, .int .i64 t1, .slice a2 n2 cap2] 26 (0, 0))).heap[g]? = wr.heap[g]? := fun g hg hne => by
                rw [Below.heap_alloc _ _ _ (by rw [hszs]; exact hg), Below.heap_setCell _ _ _ g hne]
              have hIb := unhide hI s _ _ (unhide hIs) hbb.size (fun g hg => hblk g (hg.elim (fun hg => by (have := (unhide hMs).size; omega)) (fun hg => by exact (unhide hC s wr g (unhide hIs) hg).2)) (fun e => hg.elim (fun hg => by omega) (fun hg => by exact hncs (e ▸ hg))))
              have hBb := (unhide hw).trans (hMb.below hC0 hws)
              have hszb : wr.heap.size < ((wr.setCell ⟨gp, m', none⟩ (.slice (some ⟨g1, o1 + 3, none⟩) r1.len (cap1 - 1))).alloc (.cells #[.int .i64 k1, .int .i64 t1, .slice a2 n2 cap2] 26 (0, 0))).heap.size := by simp
              have hFc := hide (unhide hF s _ k1 t1 a2 n2 cap2 c1 (m' + 2) hIb (hs2.below hBb) (by omega) hBb (by simp only [F.size] at hsf; omega) hs2 ⟨dn, unhide hdn, by omega⟩)
              rw [show ((m' + 2 : Nat) : Int) = (m' : Int) + 1 + 1 by omega] at hFc
              have hCs := hide (fun g hg => (unhide hC s wr g (unhide hIs) hg).2)
              have hrp := hr.frozen m'
              have hxb' := hide hxb
              replace hrb := hide hrb
              replace htl := hide htl
              replace htl' := hide htl'
              replace hs2 := hide hs2
              replace hst' := hide hst'
              replace htake := hide htake
              replace hgo := hide hgo
              replace hblk := hide hblk
              clear hr hxb hrs
              go_upto_region 10 with fail
              replace hMb := hide hMb
              replace hIb := hide hIb
              replace hBb := hide hBb
              replace hbb := hide hbb
              obtain ⟨gb, hgb⟩ : ∃ gb, wr.heap.size = gb := ⟨_, rfl⟩
              rw [hgb] at hgps hxb' hszb hblk hCs ⊢
              replace hgb := hide hgb
              generalize (wr.setCell ⟨gp, m', none⟩ (.slice (some ⟨g1, o1 + 3, none⟩) r1.len (cap1 - 1))).alloc (.cells #[.int .i64 k1, .int .i64 t1, .slice a2 n2 cap2] 26 (0, 0)) = Wb at *
              clear hrp hfz hcell z0 z1 z2 hrl hszs
              obtain ⟨y0, y1, y2⟩ := unhide hxb'
              go_wp2_with fail
              refine (unhide hFc).mono ?_
              rintro e W6 ⟨rfl, s', hR', hI', hM'⟩
              have hgpB : gp < Wb.heap.size := by omega
              have hr6 := (unhide hrb).same (w' := W6) (hM'.block gp hgpB hncs)
              have hncb : ¬ C s gb := fun h => by have := unhide hCs _ h; omega
              have hbk := hM'.block gb hszb hncb
              have x6 : BoxN W6 gb k1 t1 a2 n2 cap2 := by
                obtain ⟨q0, q1, q2⟩ := unhide hxb'
                exact ⟨by unfold World.cell? at *; dsimp only at *; rw [hbk]; exact q0, by unfold World.cell? at *; dsimp only at *; rw [hbk]; exact q1, by unfold World.cell? at *; dsimp only at *; rw [hbk]; exact q2⟩
              have hM6 := (unhide hMb).trans hM'
              have hnc6 : ¬ C s' gp := fun h => by
                rcases hM'.grows gp h with h1 | h1
                · exact hncs h1
                · omega
              have hsz6 := hM'.size
              clear y0 y1 y2 hFc hbk
              have hdn' := hide ((unhide hdn).snoc hR')
              cases hA1 : A k1 with
              | false =>
                have hdl6 : dn + 1 + mu (r1 :: rest) ≤ 2000002 := by have := hmc; rw [hA1] at this; simp only [Bool.false_eq_true, if_false] at this; omega
                have hmu' : mu (r1 :: rest) ≤ g' := by have := hmc; rw [hA1] at this; simp only [Bool.false_eq_true, if_false] at this; omega
                have hgo' : Hid (∀ z, RS R s' (rem A (r1 :: rest)) z → RS R s0 (visN A ⟨k, t, c⟩) z) := hide (fun z hz => unhide hgo z (by
                  have := unhide hrem
                  rw [hA1] at this
                  simp only [Bool.false_eq_true, if_false] at this
                  rw [this, hm']
                  exact ⟨s', hR', hz⟩))
                have hsz' : ∀ f ∈ r1 :: rest, f.size ≤ 1000000 := fun f hf => by
                  rcases List.mem_cons.1 hf with rfl | hf
                  · simp only [F.size] at hsf; omega
                  · exact hsr f hf
                have hst6 : Hid (Stk W0 (.slice (some ⟨g1, o1 + 3, none⟩) r1.len (cap1 - 1) :: ts) (r1 :: rest)) := hide ⟨⟨_, _, _, rfl, unhide htl'⟩, unhide hst'⟩
                have hm6 : m' + 1 = (r1 :: rest).length := by rw [List.length_cons, hm']
                replace hm6 := hide hm6
                replace hA1 := hide hA1
                replace hsz' := hide hsz'
                go_wp2
                go_roundg g'
                case measure => omega
                case rel => exact ⟨s', _, _, gp, cp, m' + 1, dn + 1, rfl, unhide hm6, hmu', by omega, hr6, hgw, hnc6, unhide hst6, unhide hsz', unhide hgo', unhide hdn', hdl6, hI', hM6⟩
              | true =>
                have hdl6 : dn + 1 + mu (c1 :: r1 :: rest) ≤ 2000002 := by have := hmc; rw [hA1] at this; simp only [if_true] at this; omega
                have hmu' : mu (c1 :: r1 :: rest) ≤ g' := by have := hmc; rw [hA1] at this; simp only [if_true] at this; omega
                have hgo' : Hid (∀ z, RS R s' (rem A (c1 :: r1 :: rest)) z → RS R s0 (visN A ⟨k, t, c⟩) z) := hide (fun z hz => unhide hgo z (by
                  have := unhide hrem
                  rw [hA1] at this
                  simp only [if_true] at this
                  rw [this, hm']
                  exact ⟨s', hR', hz⟩))
                have hsz' : ∀ f ∈ c1 :: r1 :: rest, f.size ≤ 1000000 := fun f hf => by
                  simp only [F.size] at hsf
                  rcases List.mem_cons.1 hf with rfl | hf
                  · omega
                  rcases List.mem_cons.1 hf with rfl | hf
                  · omega
                  · exact hsr f hf
                have hst6 : Hid (Stk W0 (.slice a2 n2 cap2 :: .slice (some ⟨g1, o1 + 3, none⟩) r1.len (cap1 - 1) :: ts) (c1 :: r1 :: rest)) := hide ⟨⟨_, _, _, rfl, unhide hs2⟩, ⟨_, _, _, rfl, unhide htl'⟩, unhide hst'⟩
                have hm6 : m' + 1 + 1 = (c1 :: r1 :: rest).length := by rw [List.length_cons, List.length_cons, hm']
                have hl6 : (Value.slice (some ⟨g1, o1 + 3, none⟩) r1.len (cap1 - 1) :: ts).reverse.length = m' + 1 := by rw [List.length_reverse, List.length_cons, hlt]
                have hown6 := hr6.own (base := w.heap.size) hgw
                rw [hl6] at hown6
                have hown7 := World.ownsRow.alloc hown6 (.cells #[.slice a2 n2 cap2] 24 (0, 0))
                have hnews : ∀ (j : Nat) (u : Value), [Value.slice a2 n2 cap2][j]? = some u → (W6.alloc (.cells #[.slice a2 n2 cap2] 24 (0, 0))).cell? (Addr.add ⟨W6.heap.size, 0, none⟩ j) = some u := by
                  intro j u hj
                  match j, hj with
                  | 0, hj => simp at hj; subst hj; simp [Addr.add]
                have hIC6 := hide (fun g hg => (unhide hC s' W6 g hI' hg).2)
                have hI7 := unhide hI s' _ _ hI' (below_alloc W6 (.cells #[.slice a2 n2 cap2] 24 (0, 0))).size (fun g hg => (below_alloc W6 _).block g (hg.elim (fun hg => by (have := hM6.size; omega)) (fun hg => by exact unhide hIC6 g hg)))
                have hM7 := moves_of hM6 ((below_alloc W6 (.cells #[.slice a2 n2 cap2] 24 (0, 0))).mono hM6.size)
                have hw6 := hM6.size
                obtain ⟨y0, y1, y2⟩ := x6
                replace hm6 := hide hm6
                replace hA1 := hide hA1
                replace hsz' := hide hsz'
                replace hl6 := hide hl6
                replace hI' := hide hI'
                replace hM6 := hide hM6
                replace hI7 := hide hI7
                replace hM7 := hide hM7
                replace hr6 := hide hr6
                replace hown6 := hide hown6
                replace hown7 := hide hown7
                replace hnews := hide hnews
                clear hM' hI'
                obtain ⟨i0, hi, hz0, hz1, hz2⟩ := info_parts Tryd.info24
                have hinf := hide (And.intro hi (And.intro hz0 (And.intro hz1 hz2)))
                clear hi hz0 hz1 hz2
                go_wp2_with (at_builtin; refine wpList_append_lies _ rfl _ _ 51 rfl w.heap.size 24 i0 (.slice none 0 0) 1 24 Tryd.underlying51 (unhide hinf).1 (unhide hinf).2.1 (unhide hinf).2.2.1 (unhide hinf).2.2.2 rfl (by decide) _ (m' + 1) _ rfl (unhide hown7) ⟨W6.heap.size, 0, none⟩ 1 1 [.slice a2 n2 cap2] rfl rfl (unhide hnews) ?h1 (by omega) (by unfold maxLen; omega) (by omega) (by simp; omega) _ rfl ?_; case h1 => (intro u hu; rw [List.mem_singleton] at hu; subst hu; rfl))
                intro gq cq W8 hown8 hg8 hat8 hlt8
                obtain ⟨hr8, hl8⟩ := RowP.of hown8
                have hs7 : (W6.alloc (.cells #[.slice a2 n2 cap2] 24 (0, 0))).heap.size = W6.heap.size + 1 := by simp
                have hgq : w.heap.size ≤ gq ∧ ¬ C s' gq := by
                  rcases hat8 with h | h
                  · have : gq = gp := by simpa [Value.ownBlock] using h.symm
                    subst this
                    exact ⟨hgw, hnc6⟩
                  · have h : gq = W6.heap.size + 1 := h
                    exact ⟨by omega, fun hh => by have := unhide hIC6 _ hh; omega⟩
                have hI8 := hide (unhide hI s' _ W8 (unhide hI7) hg8.size (fun g hg => hg8.block g (by rw [hs7]; exact hg.elim (fun hg => by omega) (fun hg => by have := unhide hIC6 g hg; omega)) (fun e => (by
                  have : gp = g := by simpa [Value.ownBlock] using e.symm
                  subst this
                  rcases hg with hg | hg
                  · omega
                  · exact hnc6 hg))))
                have hb8 : RowKit.Below w.heap.size (W6.alloc (.cells #[.slice a2 n2 cap2] 24 (0, 0))) W8 := (Below.refl _ _).grown hg8 (by simp; omega) (fun q hq => by
                  have : gp = q := by simpa [Value.ownBlock] using hq
                  subst this; exact hgw)
                have hM8 := hide (moves_of (unhide hM7) hb8)
                rw [show ts.reverse ++ [Value.slice (some ⟨g1, o1 + 3, none⟩) r1.len (cap1 - 1), .slice a2 n2 cap2] = (.slice a2 n2 cap2 :: .slice (some ⟨g1, o1 + 3, none⟩) r1.len (cap1 - 1) :: ts).reverse by simp] at hr8
                replace hr8 := hide hr8
                clear hown8 hg8 hat8 hl8 hb8 hs7
                go_wp2
                go_roundg g'
                case measure => omega
                case rel => exact ⟨s', _, _, gq, cq, m' + 1 + 1, dn + 1, rfl, unhide hm6, hmu', by omega, unhide hr8, hgq.1, hgq.2, unhide hst6, unhide hsz', unhide hgo', unhide hdn', hdl6, unhide hI8, unhide hM8⟩
end Go.Proofs.YthnapcdanccohaaDoor
