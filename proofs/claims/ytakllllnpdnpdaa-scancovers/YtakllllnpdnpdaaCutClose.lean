/-
  The program's cutter.close.
-/
import Derived.Test.YtakllllnpdnpdaaCutSt
import Derived.Test.YtakllllnpdnpdaaTokKey
import Derived.Laws.OwnMore
namespace Go.Proofs.Ytakllllnpdnpdaa
open Go.RowKit
set_option linter.unusedSimpArgs false
set_option maxHeartbeats 4000000 in
set_option maxRecDepth 100000 in
theorem cuClose_any (w : World) (base g : Nat) (s : ByteArray) (x : Sc) (hx : CuSt w base g s x) (hl : x.l.length ≤ 1000000) :
    Calls Try.prog 17 #[.pointer (some ⟨g, 0, none⟩)] w fun e w' => e = .returned (.tuple #[]) ∧ CuSt w' base g s x.semi ∧ Below base w w' := by
  have hx0 := hide hx
  obtain ⟨vl, vc, h0, h1, h2, h3⟩ := hx
  obtain ⟨p, line, l, c⟩ := x
  dsimp only at *
  have hg : g < w.heap.size := (Array.getElem?_eq_some_iff.1 h0).1
  rcases List.eq_nil_or_concat l with rfl | ⟨l0, t, rfl⟩
  · rw [semi_nil]
    obtain ⟨al, cl, rfl, hcl, hcm⟩ := own_shape h1
    clear h1 h2
    dsimp only [List.length_nil] at *
    obtain ⟨x0, x1, x2, x3, x4⟩ := cuCells h0
    clear h0
    go_enter Try.func17, Try.ntmps17
    go_wp2
    go_end0
    exact ⟨rfl, unhide hx0, Below.refl _ _⟩
  · obtain ⟨a1, cl, e1, hcl, hcm⟩ := own_shape h1
    rw [List.concat_eq_append] at *
    have HE := fun w => tEnds_any t w
    have hlen : (l0 ++ [t]).length = l0.length + 1 := by simp
    rw [hlen] at hcl hl e1
    obtain ⟨gl, rfl⟩ : ∃ gl, a1 = some ⟨gl, 0, none⟩ := by
      rcases h1.2 with ⟨_, hz⟩ | ⟨gl, cap, cur, e, _⟩
      · rw [hlen] at hz; omega
      · rw [e1] at e
        simp only [Value.slice.injEq] at e
        exact ⟨gl, e.1⟩
    subst e1
    obtain ⟨ac, cc, rfl, hcc, hcn⟩ := own_shape h2
    have hT : ∀ w', OwnT w' base (.slice (some ⟨gl, 0, none⟩) (l0.length + 1) cl) (l0 ++ [t]) → w'.cell? ⟨gl, l0.length * 5, none⟩ = some (.int .i64 t.k) ∧ w'.cell? ⟨gl, l0.length * 5 + 1, none⟩ = some (.string t.s) ∧ w'.cell? ⟨gl, l0.length * 5 + 2, none⟩ = some (.int .i64 t.p) ∧ w'.cell? ⟨gl, l0.length * 5 + 3, none⟩ = some (.int .i64 t.l) ∧ w'.cell? ⟨gl, l0.length * 5 + 4, none⟩ = some (.bool t.q) := fun w' h => ⟨last_tok h 0 (by omega), last_tok h 1 (by omega), last_tok h 2 (by omega), last_tok h 3 (by omega), last_tok h 4 (by omega)⟩
    have hoff := semi_off p line l0 t c
    have hon := semi_on p line l0 t c
    generalize hll : l0 ++ [t] = l at *
    generalize l0.length = m at *
    have hnc : c.length = c.length := rfl
    generalize hnc' : c.length = nc at *
    clear hnc
    have hnc := hnc'
    clear hnc' hll
    have hnl : l.length = m + 1 := hlen
    clear hlen
    simp only [Tk.val] at HE
    replace HE := hide HE
    replace hT := hide hT
    replace hoff := hide hoff
    replace hon := hide hon
    clear hx0
    obtain ⟨x0, x1, x2, x3, x4⟩ := cuCells h0
    have hT0 := unhide hT w h1
    obtain ⟨t0, t1, t2, t3, t4⟩ := hT0
    have hm1 : IntKind.i64.wrap ((m + 1 : Nat) - 1 : Int) = m := by rw [wrapI _ (by omega) (by omega)]; omega
    replace h0 := hide h0
    replace h1 := hide h1
    replace h2 := hide h2
    cases he : endB t with
    | false =>
      rw [he] at HE
      go_enter Try.func17, Try.ntmps17
      go_wp2_with fail
      refine (unhide HE _).mono ?_
      rintro e W2 ⟨rfl, hb⟩
      have hz : CuSt W2 base g s ⟨p, line, l, c⟩ := CuSt.below ⟨_, _, unhide h0, unhide h1, unhide h2, h3⟩ hb
      replace hz := hide hz
      have hbb : Below base w W2 := hb.mono (by omega)
      go_wp2
      go_end0
      exact ⟨rfl, (unhide hoff he).symm ▸ unhide hz, hbb⟩
    | true =>
      rw [he] at HE
      go_enter Try.func17, Try.ntmps17
      go_wp2_with fail
      refine (unhide HE _).mono ?_
      rintro e W0 ⟨rfl, hb⟩
      clear x0 x1 x2 x3 x4 t0 t1 t2 t3 t4 hm1
      have hw : Below base w W0 := hb.mono (by omega)
      have hk : ∀ k o, w.heap[k]? = some o → W0.heap[k]? = w.heap[k]? := fun k o hk => hb.block k (Array.getElem?_eq_some_iff.1 hk).1
      have hS := (hk _ _ (unhide h0)).trans (unhide h0)
      replace h1 : OwnT W0 base _ l := own_other (unhide h1) (fun k cur hc => hk k _ hc)
      replace h2 : OwnC W0 base _ c := own_other (unhide h2) (fun k cur hc => hk k _ hc)
      clear h0 hb hk hg
      have hg : g < W0.heap.size := (Array.getElem?_eq_some_iff.1 hS).1
      obtain ⟨nl, hnl'⟩ : ∃ nl, m + 1 = nl := ⟨_, rfl⟩
      obtain ⟨al, hal⟩ : ∃ al : Option Addr, some ⟨gl, 0, none⟩ = al := ⟨_, rfl⟩
      rw [hnl', hal] at hS h1
      rw [hnl'] at hnl hl
      replace hal := hide hal
      replace hnl' := hide hnl'
      replace hS := hide hS
      replace h1 := hide h1
      replace h2 := hide h2
      replace hw := hide hw
      go_upto_region 2 with fail
      replace hS := unhide hS
      replace h1 := unhide h1
      replace h2 := unhide h2
      replace hw := unhide hw
      refine wp_region_D (fun w' => w'.heap[g]? = some (cuObj s p line (.slice al nl cl) (.slice ac nc cc))) (fun j => [18].contains j) (by kernel_rfl) ?_
      replace hS : W0.drew.heap[g]? = some (cuObj s p line (.slice al nl cl) (.slice ac nc cc)) := hS
      replace h1 : OwnT W0.drew base (.slice al nl cl) l := h1
      replace h2 : OwnC W0.drew base (.slice ac nc cc) c := h2
      replace hw : Below base w W0.drew := hw.drew
      replace hg : g < W0.drew.heap.size := hg
      generalize World.drew W0 = W at h1 h2 hS hw hg ⊢
      refine wpAnyD_takeC (i := 0) (v := .pointer (some ⟨g, 0, none⟩)) [18] (fun _ => rfl) rfl (by kernel_rfl) 2 (by kernel_rfl) rfl (by kernel_rfl) (by kernel_rfl) (by kernel_rfl) (fun _ _ _ h => h) (Or.inl ⟨by kernel_rfl, ?_⟩) hS ?_
      · intro w hSw; go_simp
      try simp only [List.getElem_toArray, List.getElem_cons_succ, List.getElem_cons_zero, Act.put, List.setIfInBounds_toArray, List.set_cons_zero, List.set_cons_succ]
      refine wpAnyD_takeC (i := 1) (v := .pointer (some ⟨g, 0, none⟩)) [18] (fun _ => rfl) rfl (by kernel_rfl) 2 (by kernel_rfl) rfl (by kernel_rfl) (by kernel_rfl) (by kernel_rfl) (fun _ _ _ h => h) (Or.inl ⟨by kernel_rfl, ?_⟩) hS ?_
      · intro w hSw; go_simp
      try simp only [List.getElem_toArray, List.getElem_cons_succ, List.getElem_cons_zero, Act.put, List.setIfInBounds_toArray, List.set_cons_zero, List.set_cons_succ]
      refine wpAnyD_takeC (i := 2) (v := .pointer (some ⟨g, 0, none⟩)) [18] (fun _ => rfl) rfl (by kernel_rfl) 2 (by kernel_rfl) rfl (by kernel_rfl) (by kernel_rfl) (by kernel_rfl) (fun _ _ _ h => h) (Or.inl ⟨by kernel_rfl, ?_⟩) hS ?_
      · intro w hSw; go_simp
      try simp only [List.getElem_toArray, List.getElem_cons_succ, List.getElem_cons_zero, Act.put, List.setIfInBounds_toArray, List.set_cons_zero, List.set_cons_succ]
      refine wpAnyD_takeC (i := 3) (v := .pointer (some ⟨g, 3, none⟩)) [18] (fun _ => rfl) rfl (by kernel_rfl) 2 (by kernel_rfl) rfl (by kernel_rfl) (by kernel_rfl) (by kernel_rfl) (fun _ _ _ h => h) (Or.inl ⟨by kernel_rfl, ?_⟩) hS ?_
      · intro w hSw; go_simp
      try simp only [List.getElem_toArray, List.getElem_cons_succ, List.getElem_cons_zero, Act.put, List.setIfInBounds_toArray, List.set_cons_zero, List.set_cons_succ]
      refine wpAnyD_takeC (i := 4) (v := .slice al nl cl) [18] (fun _ => rfl) rfl (by kernel_rfl) 2 (by kernel_rfl) rfl (by kernel_rfl) (by kernel_rfl) (by kernel_rfl) (fun _ _ _ h => h) (Or.inl ⟨by kernel_rfl, ?_⟩) hS ?_
      · intro w hSw; obtain ⟨x0, x1, x2, x3, x4⟩ := cuCells hSw; go_simp
      try simp only [List.getElem_toArray, List.getElem_cons_succ, List.getElem_cons_zero, Act.put, List.setIfInBounds_toArray, List.set_cons_zero, List.set_cons_succ]
      refine wpAnyD_takeC (i := 5) (v := .pointer (some ⟨g, 0, none⟩)) [18] (fun _ => rfl) rfl (by kernel_rfl) 2 (by kernel_rfl) rfl (by kernel_rfl) (by kernel_rfl) (by kernel_rfl) (fun _ _ _ h => h) (Or.inl ⟨by kernel_rfl, ?_⟩) hS ?_
      · intro w hSw; go_simp
      try simp only [List.getElem_toArray, List.getElem_cons_succ, List.getElem_cons_zero, Act.put, List.setIfInBounds_toArray, List.set_cons_zero, List.set_cons_succ]
      refine wpAnyD_takeC (i := 6) (v := .pointer (some ⟨g, 0, none⟩)) [18] (fun _ => rfl) rfl (by kernel_rfl) 2 (by kernel_rfl) rfl (by kernel_rfl) (by kernel_rfl) (by kernel_rfl) (fun _ _ _ h => h) (Or.inl ⟨by kernel_rfl, ?_⟩) hS ?_
      · intro w hSw; go_simp
      try simp only [List.getElem_toArray, List.getElem_cons_succ, List.getElem_cons_zero, Act.put, List.setIfInBounds_toArray, List.set_cons_zero, List.set_cons_succ]
      refine wpAnyD_takeC (i := 7) (v := .pointer (some ⟨g, 1, none⟩)) [18] (fun _ => rfl) rfl (by kernel_rfl) 2 (by kernel_rfl) rfl (by kernel_rfl) (by kernel_rfl) (by kernel_rfl) (fun _ _ _ h => h) (Or.inl ⟨by kernel_rfl, ?_⟩) hS ?_
      · intro w hSw; go_simp
      try simp only [List.getElem_toArray, List.getElem_cons_succ, List.getElem_cons_zero, Act.put, List.setIfInBounds_toArray, List.set_cons_zero, List.set_cons_succ]
      refine wpAnyD_takeC (i := 8) (v := .int .i64 p) [18] (fun _ => rfl) rfl (by kernel_rfl) 2 (by kernel_rfl) rfl (by kernel_rfl) (by kernel_rfl) (by kernel_rfl) (fun _ _ _ h => h) (Or.inl ⟨by kernel_rfl, ?_⟩) hS ?_
      · intro w hSw; obtain ⟨x0, x1, x2, x3, x4⟩ := cuCells hSw; go_simp
      try simp only [List.getElem_toArray, List.getElem_cons_succ, List.getElem_cons_zero, Act.put, List.setIfInBounds_toArray, List.set_cons_zero, List.set_cons_succ]
      refine wpAnyD_takeC (i := 9) (v := .pointer (some ⟨g, 0, none⟩)) [18] (fun _ => rfl) rfl (by kernel_rfl) 2 (by kernel_rfl) rfl (by kernel_rfl) (by kernel_rfl) (by kernel_rfl) (fun _ _ _ h => h) (Or.inl ⟨by kernel_rfl, ?_⟩) hS ?_
      · intro w hSw; go_simp
      try simp only [List.getElem_toArray, List.getElem_cons_succ, List.getElem_cons_zero, Act.put, List.setIfInBounds_toArray, List.set_cons_zero, List.set_cons_succ]
      refine wpAnyD_takeC (i := 10) (v := .pointer (some ⟨g, 0, none⟩)) [18] (fun _ => rfl) rfl (by kernel_rfl) 2 (by kernel_rfl) rfl (by kernel_rfl) (by kernel_rfl) (by kernel_rfl) (fun _ _ _ h => h) (Or.inl ⟨by kernel_rfl, ?_⟩) hS ?_
      · intro w hSw; go_simp
      try simp only [List.getElem_toArray, List.getElem_cons_succ, List.getElem_cons_zero, Act.put, List.setIfInBounds_toArray, List.set_cons_zero, List.set_cons_succ]
      refine wpAnyD_takeC (i := 11) (v := .pointer (some ⟨g, 2, none⟩)) [18] (fun _ => rfl) rfl (by kernel_rfl) 2 (by kernel_rfl) rfl (by kernel_rfl) (by kernel_rfl) (by kernel_rfl) (fun _ _ _ h => h) (Or.inl ⟨by kernel_rfl, ?_⟩) hS ?_
      · intro w hSw; go_simp
      try simp only [List.getElem_toArray, List.getElem_cons_succ, List.getElem_cons_zero, Act.put, List.setIfInBounds_toArray, List.set_cons_zero, List.set_cons_succ]
      refine wpAnyD_takeC (i := 12) (v := .int .i64 line) [18] (fun _ => rfl) rfl (by kernel_rfl) 2 (by kernel_rfl) rfl (by kernel_rfl) (by kernel_rfl) (by kernel_rfl) (fun _ _ _ h => h) (Or.inl ⟨by kernel_rfl, ?_⟩) hS ?_
      · intro w hSw; obtain ⟨x0, x1, x2, x3, x4⟩ := cuCells hSw; go_simp
      try simp only [List.getElem_toArray, List.getElem_cons_succ, List.getElem_cons_zero, Act.put, List.setIfInBounds_toArray, List.set_cons_zero, List.set_cons_succ]
      refine wpAnyD_takeC (i := 13) (v := .agg #[.int .i64 6, .string ⟨#[59]⟩, .int .i64 p, .int .i64 line, .bool true]) [18] (fun _ => rfl) rfl (by kernel_rfl) 2 (by kernel_rfl) rfl (by kernel_rfl) (by kernel_rfl) (by kernel_rfl) (fun _ _ _ h => h) (Or.inl ⟨by kernel_rfl, ?_⟩) hS ?_
      · intro w hSw; go_simp
      try simp only [List.getElem_toArray, List.getElem_cons_succ, List.getElem_cons_zero, Act.put, List.setIfInBounds_toArray, List.set_cons_zero, List.set_cons_succ]
      replace h1 := hide h1
      replace h2 := hide h2
      replace hS := hide hS
      replace hw := hide hw
      refine wpAnyD_one (i := 14) rfl (by kernel_rfl) (fun K hK => ?_)
      replace hK := hide hK
      go_simp
      have hS2 : (W.alloc (.cells #[.int .i64 6, .string ⟨#[59]⟩, .int .i64 p, .int .i64 line, .bool true] 32)).heap[g]? = some (cuObj s p line (.slice al nl cl) (.slice ac nc cc)) := (Below.heap_alloc _ _ _ hg).trans (unhide hS)
      have h1a := own_alloc (unhide h1) (.cells #[.int .i64 6, .string ⟨#[59]⟩, .int .i64 p, .int .i64 line, .bool true] 32)
      have h2a := own_alloc (unhide h2) (.cells #[.int .i64 6, .string ⟨#[59]⟩, .int .i64 p, .int .i64 line, .bool true] 32)
      have hn := new_tok W ⟨6, ⟨#[59]⟩, p, line, true⟩ (0, 0)
      have hwa := (unhide hw).alloc (by omega) (.cells #[.int .i64 6, .string ⟨#[59]⟩, .int .i64 p, .int .i64 line, .bool true] 32)
      have hga : g < (W.alloc (.cells #[.int .i64 6, .string ⟨#[59]⟩, .int .i64 p, .int .i64 line, .bool true] 32)).heap.size := (Array.getElem?_eq_some_iff.1 hS2).1
      refine unhide hK _ _ (fun _ => hS2) ?_
      clear hK K h1 h2 hS hw
      dsimp only at hn
      generalize World.alloc W _ = W2 at *
      generalize W.heap.size = gn at *
      try simp only [List.getElem_toArray, List.getElem_cons_succ, List.getElem_cons_zero, Act.put, List.setIfInBounds_toArray, List.set_cons_zero, List.set_cons_succ]
      refine wpAnyD_one (i := 15) rfl (by kernel_rfl) (fun K hK => ?_)
      rw [if_pos (by kernel_rfl)]
      refine wp_append_tok (v := .slice al nl cl) (.tmp 25) (.tmp 35) rfl ⟨6, ⟨#[59]⟩, p, line, true⟩ rfl h1a ⟨gn, 0, none⟩ rfl hn (by omega) (by omega) ?_
      intro v' W3 hown hgrow
      obtain ⟨hst, hS3⟩ := cu_stored hS2 h1a h2a h3 hown hgrow
      have hwb : Below base w W3 := hwa.grown hgrow (by omega) (fun k hk => by
        rcases h1a.2 with ⟨e, _⟩ | ⟨g', cap, cur, e, hb, _⟩
        · rw [e] at hk; cases hk
        · rw [e] at hk
          obtain rfl : g' = k := by simpa [Value.ownBlock] using hk
          exact hb)
      obtain ⟨al', cl', hv, _, _⟩ := own_shape hown
      obtain rfl : v' = .slice al' (nl + 1) cl' := by rw [hv, List.length_append, hnl]; rfl
      clear hv
      refine hK _ _ (fun _ => hS3) ?_
      clear hK K hown hgrow h1a h2a hn hwa hS2 hga
      have hS := hS3
      clear hS3
      replace hst := hide hst
      replace hwb := hide hwb
      try simp only [List.getElem_toArray, List.getElem_cons_succ, List.getElem_cons_zero, Act.put, List.setIfInBounds_toArray, List.set_cons_zero, List.set_cons_succ]
      refine wpAnyD_takeC (i := 16) (v := .pointer (some ⟨g, 0, none⟩)) [18] (fun _ => rfl) rfl (by kernel_rfl) 2 (by kernel_rfl) rfl (by kernel_rfl) (by kernel_rfl) (by kernel_rfl) (fun _ _ _ h => h) (Or.inl ⟨by kernel_rfl, ?_⟩) hS ?_
      · intro w hSw; go_simp
      try simp only [List.getElem_toArray, List.getElem_cons_succ, List.getElem_cons_zero, Act.put, List.setIfInBounds_toArray, List.set_cons_zero, List.set_cons_succ]
      refine wpAnyD_takeC (i := 17) (v := .pointer (some ⟨g, 3, none⟩)) [18] (fun _ => rfl) rfl (by kernel_rfl) 2 (by kernel_rfl) rfl (by kernel_rfl) (by kernel_rfl) (by kernel_rfl) (fun _ _ _ h => h) (Or.inl ⟨by kernel_rfl, ?_⟩) hS ?_
      · intro w hSw; go_simp
      try simp only [List.getElem_toArray, List.getElem_cons_succ, List.getElem_cons_zero, Act.put, List.setIfInBounds_toArray, List.set_cons_zero, List.set_cons_succ]
      obtain ⟨x0, x1, x2, x3, x4⟩ := cuCells hS
      have hf := cuFrozen hS
      refine wpAnyD_one (i := 18) rfl (by kernel_rfl) (fun K hK => ?_)
      replace hK := hide hK
      go_simp
      refine unhide hK _ _ (fun h => by cases h) ?_
      clear hK K x0 x1 x2 x3 x4 hf hS
      replace hst := unhide hst
      have hwc := (unhide hwb).setCell (p := ⟨g, 3, none⟩) h3 (.slice al' (nl + 1) cl')
      clear hwb
      generalize World.setCell _ _ _ = W4 at *
      refine wpAnyD_done (by kernel_rfl) ?_ _
      replace hst := hide hst
      replace hwc := hide hwc
      go_wp2
      go_end0
      exact ⟨rfl, (unhide hon he).symm ▸ unhide hst, unhide hwc⟩
end Go.Proofs.Ytakllllnpdnpdaa
