/-
  The program's cutter.comment.
-/
import Derived.Test.YtakllllnpdnpdaaCutSt
import Derived.Test.YtakllllnpdnpdaaCutLib
namespace Go.Proofs.Ytakllllnpdnpdaa
open Go.RowKit
set_option linter.unusedSimpArgs false
theorem nlF_extract (s : ByteArray) (a : Nat) (ha : a ≤ s.size) : ∀ (f k : Nat), nlF (s.extract a s.size) f k + a = nlF s f (a + k) := by
  intro f
  induction f with
  | zero => intro k; simp only [nlF]; omega
  | succ f ih =>
    intro k
    rw [nlF, nlF, byteAt_extract, ByteArray.size_extract]
    by_cases h : a + k < s.size ∧ byteAt s (a + k) ≠ 10
    · rw [if_pos ⟨by omega, h.2⟩, if_pos h, ih (k + 1)]
      rfl
    · rw [if_neg (fun h' => h ⟨by omega, h'.2⟩), if_neg h]
      omega
theorem nlN_extract (s : ByteArray) (a : Nat) (ha : a ≤ s.size) : nlN (s.extract a s.size) 0 + a = nlN s a := by
  have := nlF_extract s a ha ((s.extract a s.size).size - 0) 0
  unfold nlN
  rw [this, ByteArray.size_extract, Nat.min_self, Nat.sub_zero, Nat.add_zero]
theorem extract_pre (s : ByteArray) (a k : Nat) (hk : a + k ≤ s.size) : (s.extract a s.size).extract 0 k = s.extract a (a + k) := by
  rw [ByteArray.extract_extract, Nat.add_zero, Nat.min_eq_left hk]
/-- A comment from where it stands: as it is taken. -/
def Sc.note (s : ByteArray) (x : Sc) : Sc := ⟨nlN s x.p, x.line, x.l, x.c ++ [⟨s.extract x.p (nlN s x.p), x.p, x.line, x.l.length⟩]⟩
set_option maxHeartbeats 4000000 in
set_option maxRecDepth 100000 in
theorem cuComment_any (w : World) (base g : Nat) (s : ByteArray) (x : Sc) (hx : CuSt w base g s x) (hp : x.p ≤ s.size) (hs : s.size ≤ 1000000) (hl : x.l.length ≤ 900000) (hcl : x.c.length ≤ 900000) :
    Calls Try.prog 19 #[.pointer (some ⟨g, 0, none⟩), .string (s.extract x.p s.size)] w fun e w' => e = .returned (.tuple #[]) ∧ CuSt w' base g s (x.note s) ∧ Below base w w' := by
  obtain ⟨vl, vc, h0, h1, h2, h3⟩ := hx
  have hnr := nlN_range (s := s) (a := x.p) hp
  have hne := nlN_extract s x.p hp
  have HC := sCut_any (s.extract x.p s.size) w (by rw [ByteArray.size_extract]; omega)
  have hpe : (s.extract x.p s.size).extract 0 (nlN (s.extract x.p s.size) 0) = s.extract x.p (nlN s x.p) := by
    rw [extract_pre s _ _ (by omega)]
    congr 1
    omega
  rw [hpe] at HC
  have hnote : x.note s = ⟨nlN s x.p, x.line, x.l, x.c ++ [⟨s.extract x.p (nlN s x.p), x.p, x.line, x.l.length⟩]⟩ := rfl
  have hts : (s.extract x.p (nlN s x.p)).size = nlN s x.p - x.p := by rw [ByteArray.size_extract]; omega
  generalize x.note s = z at *
  generalize nlN (s.extract x.p s.size) 0 = q at *
  generalize nlN s x.p = k at *
  generalize s.extract x.p s.size = rest at *
  obtain ⟨p, line, l, c⟩ := x
  dsimp only at *
  generalize s.extract p k = t at *
  clear hpe hne
  have hg0 : g < w.heap.size := (Array.getElem?_eq_some_iff.1 h0).1
  obtain ⟨al, cl, rfl, hal1, hal2⟩ := own_shape h1
  obtain ⟨ac, cc, rfl, hac1, hac2⟩ := own_shape h2
  obtain ⟨nl, hnl⟩ : ∃ nl, l.length = nl := ⟨_, rfl⟩
  obtain ⟨nc, hnc⟩ : ∃ nc, c.length = nc := ⟨_, rfl⟩
  rw [hnl] at h0 h1 hal1 hl hnote
  rw [hnc] at h0 h2 hac1 hcl
  replace HC := hide HC
  replace hnote := hide hnote
  replace hts := hide hts
  go_enter Try.func19, Try.ntmps19
  go_wp2_with fail
  refine (unhide HC).mono ?_
  rintro e W0 ⟨sa, sf, rfl, hb⟩
  clear HC
  have hw : Below base w W0 := hb.mono (by omega)
  have hk : ∀ k o, w.heap[k]? = some o → W0.heap[k]? = w.heap[k]? := fun k o hk => hb.block k (Array.getElem?_eq_some_iff.1 hk).1
  have hS := (hk _ _ h0).trans h0
  replace h1 : OwnT W0 base _ l := own_other h1 (fun k cur hc => hk k _ hc)
  replace h2 : OwnC W0 base _ c := own_other h2 (fun k cur hc => hk k _ hc)
  clear h0 hb hk hg0
  have hg : g < W0.heap.size := (Array.getElem?_eq_some_iff.1 hS).1
  replace hS := hide hS
  replace h1 := hide h1
  replace h2 := hide h2
  replace hw := hide hw
  go_upto_region 1 with fail
  replace hS := unhide hS
  replace h1 := unhide h1
  replace h2 := unhide h2
  replace hw := unhide hw
  refine wp_region_D (fun w' => w'.heap[g]? = some (cuObj s p line (.slice al nl cl) (.slice ac nc cc))) (fun j => [24].contains j) (by kernel_rfl) ?_
  replace hS : W0.drew.heap[g]? = some (cuObj s p line (.slice al nl cl) (.slice ac nc cc)) := hS
  replace h1 : OwnT W0.drew base (.slice al nl cl) l := h1
  replace h2 : OwnC W0.drew base (.slice ac nc cc) c := h2
  replace hw : Below base w W0.drew := hw.drew
  replace hg : g < W0.drew.heap.size := hg
  generalize World.drew W0 = W at h1 h2 hS hw hg ⊢
  refine wpAnyD_takeC (i := 0) (v := .pointer (some ⟨g, 0, none⟩)) [24] (fun _ => rfl) rfl (by kernel_rfl) 2 (by kernel_rfl) rfl (by kernel_rfl) (by kernel_rfl) (by kernel_rfl) (fun _ _ _ h => h) (Or.inl ⟨by kernel_rfl, ?_⟩) hS ?_
  · intro w hSw; go_simp
  try simp only [List.getElem_toArray, List.getElem_cons_succ, List.getElem_cons_zero, Act.put, List.setIfInBounds_toArray, List.set_cons_zero, List.set_cons_succ]
  refine wpAnyD_takeC (i := 1) (v := .pointer (some ⟨g, 0, none⟩)) [24] (fun _ => rfl) rfl (by kernel_rfl) 2 (by kernel_rfl) rfl (by kernel_rfl) (by kernel_rfl) (by kernel_rfl) (fun _ _ _ h => h) (Or.inl ⟨by kernel_rfl, ?_⟩) hS ?_
  · intro w hSw; go_simp
  try simp only [List.getElem_toArray, List.getElem_cons_succ, List.getElem_cons_zero, Act.put, List.setIfInBounds_toArray, List.set_cons_zero, List.set_cons_succ]
  refine wpAnyD_takeC (i := 2) (v := .pointer (some ⟨g, 0, none⟩)) [24] (fun _ => rfl) rfl (by kernel_rfl) 2 (by kernel_rfl) rfl (by kernel_rfl) (by kernel_rfl) (by kernel_rfl) (fun _ _ _ h => h) (Or.inl ⟨by kernel_rfl, ?_⟩) hS ?_
  · intro w hSw; go_simp
  try simp only [List.getElem_toArray, List.getElem_cons_succ, List.getElem_cons_zero, Act.put, List.setIfInBounds_toArray, List.set_cons_zero, List.set_cons_succ]
  refine wpAnyD_takeC (i := 3) (v := .pointer (some ⟨g, 4, none⟩)) [24] (fun _ => rfl) rfl (by kernel_rfl) 2 (by kernel_rfl) rfl (by kernel_rfl) (by kernel_rfl) (by kernel_rfl) (fun _ _ _ h => h) (Or.inl ⟨by kernel_rfl, ?_⟩) hS ?_
  · intro w hSw; go_simp
  try simp only [List.getElem_toArray, List.getElem_cons_succ, List.getElem_cons_zero, Act.put, List.setIfInBounds_toArray, List.set_cons_zero, List.set_cons_succ]
  refine wpAnyD_takeC (i := 4) (v := .slice ac nc cc) [24] (fun _ => rfl) rfl (by kernel_rfl) 2 (by kernel_rfl) rfl (by kernel_rfl) (by kernel_rfl) (by kernel_rfl) (fun _ _ _ h => h) (Or.inl ⟨by kernel_rfl, ?_⟩) hS ?_
  · intro w hSw; obtain ⟨x0, x1, x2, x3, x4⟩ := cuCells hSw; go_simp
  try simp only [List.getElem_toArray, List.getElem_cons_succ, List.getElem_cons_zero, Act.put, List.setIfInBounds_toArray, List.set_cons_zero, List.set_cons_succ]
  refine wpAnyD_takeC (i := 5) (v := .string t) [24] (fun _ => rfl) rfl (by kernel_rfl) 2 (by kernel_rfl) rfl (by kernel_rfl) (by kernel_rfl) (by kernel_rfl) (fun _ _ _ h => h) (Or.inl ⟨by kernel_rfl, ?_⟩) hS ?_
  · intro w hSw; go_simp
  try simp only [List.getElem_toArray, List.getElem_cons_succ, List.getElem_cons_zero, Act.put, List.setIfInBounds_toArray, List.set_cons_zero, List.set_cons_succ]
  refine wpAnyD_takeC (i := 6) (v := .pointer (some ⟨g, 0, none⟩)) [24] (fun _ => rfl) rfl (by kernel_rfl) 2 (by kernel_rfl) rfl (by kernel_rfl) (by kernel_rfl) (by kernel_rfl) (fun _ _ _ h => h) (Or.inl ⟨by kernel_rfl, ?_⟩) hS ?_
  · intro w hSw; go_simp
  try simp only [List.getElem_toArray, List.getElem_cons_succ, List.getElem_cons_zero, Act.put, List.setIfInBounds_toArray, List.set_cons_zero, List.set_cons_succ]
  refine wpAnyD_takeC (i := 7) (v := .pointer (some ⟨g, 0, none⟩)) [24] (fun _ => rfl) rfl (by kernel_rfl) 2 (by kernel_rfl) rfl (by kernel_rfl) (by kernel_rfl) (by kernel_rfl) (fun _ _ _ h => h) (Or.inl ⟨by kernel_rfl, ?_⟩) hS ?_
  · intro w hSw; go_simp
  try simp only [List.getElem_toArray, List.getElem_cons_succ, List.getElem_cons_zero, Act.put, List.setIfInBounds_toArray, List.set_cons_zero, List.set_cons_succ]
  refine wpAnyD_takeC (i := 8) (v := .pointer (some ⟨g, 1, none⟩)) [24] (fun _ => rfl) rfl (by kernel_rfl) 2 (by kernel_rfl) rfl (by kernel_rfl) (by kernel_rfl) (by kernel_rfl) (fun _ _ _ h => h) (Or.inl ⟨by kernel_rfl, ?_⟩) hS ?_
  · intro w hSw; go_simp
  try simp only [List.getElem_toArray, List.getElem_cons_succ, List.getElem_cons_zero, Act.put, List.setIfInBounds_toArray, List.set_cons_zero, List.set_cons_succ]
  refine wpAnyD_takeC (i := 9) (v := .int .i64 p) [24] (fun _ => rfl) rfl (by kernel_rfl) 2 (by kernel_rfl) rfl (by kernel_rfl) (by kernel_rfl) (by kernel_rfl) (fun _ _ _ h => h) (Or.inl ⟨by kernel_rfl, ?_⟩) hS ?_
  · intro w hSw; obtain ⟨x0, x1, x2, x3, x4⟩ := cuCells hSw; go_simp
  try simp only [List.getElem_toArray, List.getElem_cons_succ, List.getElem_cons_zero, Act.put, List.setIfInBounds_toArray, List.set_cons_zero, List.set_cons_succ]
  refine wpAnyD_takeC (i := 10) (v := .pointer (some ⟨g, 0, none⟩)) [24] (fun _ => rfl) rfl (by kernel_rfl) 2 (by kernel_rfl) rfl (by kernel_rfl) (by kernel_rfl) (by kernel_rfl) (fun _ _ _ h => h) (Or.inl ⟨by kernel_rfl, ?_⟩) hS ?_
  · intro w hSw; go_simp
  try simp only [List.getElem_toArray, List.getElem_cons_succ, List.getElem_cons_zero, Act.put, List.setIfInBounds_toArray, List.set_cons_zero, List.set_cons_succ]
  refine wpAnyD_takeC (i := 11) (v := .pointer (some ⟨g, 0, none⟩)) [24] (fun _ => rfl) rfl (by kernel_rfl) 2 (by kernel_rfl) rfl (by kernel_rfl) (by kernel_rfl) (by kernel_rfl) (fun _ _ _ h => h) (Or.inl ⟨by kernel_rfl, ?_⟩) hS ?_
  · intro w hSw; go_simp
  try simp only [List.getElem_toArray, List.getElem_cons_succ, List.getElem_cons_zero, Act.put, List.setIfInBounds_toArray, List.set_cons_zero, List.set_cons_succ]
  refine wpAnyD_takeC (i := 12) (v := .pointer (some ⟨g, 2, none⟩)) [24] (fun _ => rfl) rfl (by kernel_rfl) 2 (by kernel_rfl) rfl (by kernel_rfl) (by kernel_rfl) (by kernel_rfl) (fun _ _ _ h => h) (Or.inl ⟨by kernel_rfl, ?_⟩) hS ?_
  · intro w hSw; go_simp
  try simp only [List.getElem_toArray, List.getElem_cons_succ, List.getElem_cons_zero, Act.put, List.setIfInBounds_toArray, List.set_cons_zero, List.set_cons_succ]
  refine wpAnyD_takeC (i := 13) (v := .int .i64 line) [24] (fun _ => rfl) rfl (by kernel_rfl) 2 (by kernel_rfl) rfl (by kernel_rfl) (by kernel_rfl) (by kernel_rfl) (fun _ _ _ h => h) (Or.inl ⟨by kernel_rfl, ?_⟩) hS ?_
  · intro w hSw; obtain ⟨x0, x1, x2, x3, x4⟩ := cuCells hSw; go_simp
  try simp only [List.getElem_toArray, List.getElem_cons_succ, List.getElem_cons_zero, Act.put, List.setIfInBounds_toArray, List.set_cons_zero, List.set_cons_succ]
  refine wpAnyD_takeC (i := 14) (v := .pointer (some ⟨g, 0, none⟩)) [24] (fun _ => rfl) rfl (by kernel_rfl) 2 (by kernel_rfl) rfl (by kernel_rfl) (by kernel_rfl) (by kernel_rfl) (fun _ _ _ h => h) (Or.inl ⟨by kernel_rfl, ?_⟩) hS ?_
  · intro w hSw; go_simp
  try simp only [List.getElem_toArray, List.getElem_cons_succ, List.getElem_cons_zero, Act.put, List.setIfInBounds_toArray, List.set_cons_zero, List.set_cons_succ]
  refine wpAnyD_takeC (i := 15) (v := .pointer (some ⟨g, 0, none⟩)) [24] (fun _ => rfl) rfl (by kernel_rfl) 2 (by kernel_rfl) rfl (by kernel_rfl) (by kernel_rfl) (by kernel_rfl) (fun _ _ _ h => h) (Or.inl ⟨by kernel_rfl, ?_⟩) hS ?_
  · intro w hSw; go_simp
  try simp only [List.getElem_toArray, List.getElem_cons_succ, List.getElem_cons_zero, Act.put, List.setIfInBounds_toArray, List.set_cons_zero, List.set_cons_succ]
  refine wpAnyD_takeC (i := 16) (v := .pointer (some ⟨g, 3, none⟩)) [24] (fun _ => rfl) rfl (by kernel_rfl) 2 (by kernel_rfl) rfl (by kernel_rfl) (by kernel_rfl) (by kernel_rfl) (fun _ _ _ h => h) (Or.inl ⟨by kernel_rfl, ?_⟩) hS ?_
  · intro w hSw; go_simp
  try simp only [List.getElem_toArray, List.getElem_cons_succ, List.getElem_cons_zero, Act.put, List.setIfInBounds_toArray, List.set_cons_zero, List.set_cons_succ]
  refine wpAnyD_takeC (i := 17) (v := .slice al nl cl) [24] (fun _ => rfl) rfl (by kernel_rfl) 2 (by kernel_rfl) rfl (by kernel_rfl) (by kernel_rfl) (by kernel_rfl) (fun _ _ _ h => h) (Or.inl ⟨by kernel_rfl, ?_⟩) hS ?_
  · intro w hSw; obtain ⟨x0, x1, x2, x3, x4⟩ := cuCells hSw; go_simp
  try simp only [List.getElem_toArray, List.getElem_cons_succ, List.getElem_cons_zero, Act.put, List.setIfInBounds_toArray, List.set_cons_zero, List.set_cons_succ]
  refine wpAnyD_takeC (i := 18) (v := .int .i64 nl) [24] (fun _ => rfl) rfl (by kernel_rfl) 2 (by kernel_rfl) rfl (by kernel_rfl) (by kernel_rfl) (by kernel_rfl) (fun _ _ _ h => h) (Or.inl ⟨by kernel_rfl, ?_⟩) hS ?_
  · intro w hSw; go_simp
  try simp only [List.getElem_toArray, List.getElem_cons_succ, List.getElem_cons_zero, Act.put, List.setIfInBounds_toArray, List.set_cons_zero, List.set_cons_succ]
  refine wpAnyD_takeC (i := 19) (v := (.agg #[.string t, .int .i64 p, .int .i64 line, .int .i64 nl])) [24] (fun _ => rfl) rfl (by kernel_rfl) 2 (by kernel_rfl) rfl (by kernel_rfl) (by kernel_rfl) (by kernel_rfl) (fun _ _ _ h => h) (Or.inl ⟨by kernel_rfl, ?_⟩) hS ?_
  · intro w hSw; go_simp
  try simp only [List.getElem_toArray, List.getElem_cons_succ, List.getElem_cons_zero, Act.put, List.setIfInBounds_toArray, List.set_cons_zero, List.set_cons_succ]
  replace h1 := hide h1
  replace h2 := hide h2
  replace hS := hide hS
  replace hw := hide hw
  refine wpAnyD_one (i := 20) rfl (by kernel_rfl) (fun K hK => ?_)
  replace hK := hide hK
  go_simp
  have hS2 : (W.alloc (.cells #[.string t, .int .i64 p, .int .i64 line, .int .i64 nl] 30)).heap[g]? = some (cuObj s p line (.slice al nl cl) (.slice ac nc cc)) := (Below.heap_alloc _ _ _ hg).trans (unhide hS)
  have h1a := own_alloc (unhide h1) (.cells #[.string t, .int .i64 p, .int .i64 line, .int .i64 nl] 30)
  have h2a := own_alloc (unhide h2) (.cells #[.string t, .int .i64 p, .int .i64 line, .int .i64 nl] 30)
  have hn := new_com W ⟨t, p, line, nl⟩ (0, 0)
  have hwa := (unhide hw).alloc (by omega) (.cells #[.string t, .int .i64 p, .int .i64 line, .int .i64 nl] 30)
  have hga : g < (W.alloc (.cells #[.string t, .int .i64 p, .int .i64 line, .int .i64 nl] 30)).heap.size := (Array.getElem?_eq_some_iff.1 hS2).1
  refine unhide hK _ _ (fun _ => hS2) ?_
  clear hK K h1 h2 hS hw
  dsimp only at hn
  generalize World.alloc W _ = W2 at *
  generalize W.heap.size = gn at *
  try simp only [List.getElem_toArray, List.getElem_cons_succ, List.getElem_cons_zero, Act.put, List.setIfInBounds_toArray, List.set_cons_zero, List.set_cons_succ]
  refine wpAnyD_one (i := 21) rfl (by kernel_rfl) (fun K hK => ?_)
  rw [if_pos (by kernel_rfl)]
  refine wp_append_com (v := .slice ac nc cc) (.tmp 17) (.tmp 33) rfl ⟨t, p, line, nl⟩ rfl h2a ⟨gn, 0, none⟩ rfl hn (by omega) (by omega) ?_
  intro v' W3 hown hgrow
  obtain ⟨hst, hS3⟩ := cu_stored_com hS2 h1a h2a h3 hown hgrow
  have hwb : Below base w W3 := hwa.grown hgrow (by omega) (fun k hk => by
    rcases h2a.2 with ⟨e, _⟩ | ⟨g', cap, cur, e, hb, _⟩
    · rw [e] at hk; cases hk
    · rw [e] at hk
      obtain rfl : g' = k := by simpa [Value.ownBlock] using hk
      exact hb)
  obtain ⟨al', cl', hv, _, _⟩ := own_shape hown
  obtain rfl : v' = .slice al' (nc + 1) cl' := by rw [hv, List.length_append, hnc]; rfl
  clear hv
  refine hK _ _ (fun _ => hS3) ?_
  clear hK K hown hgrow h1a h2a hn hwa hS2 hga
  have hS := hS3
  clear hS3
  replace hst := hide hst
  replace hwb := hide hwb
  try simp only [List.getElem_toArray, List.getElem_cons_succ, List.getElem_cons_zero, Act.put, List.setIfInBounds_toArray, List.set_cons_zero, List.set_cons_succ]
  refine wpAnyD_takeC (i := 22) (v := .pointer (some ⟨g, 0, none⟩)) [24] (fun _ => rfl) rfl (by kernel_rfl) 2 (by kernel_rfl) rfl (by kernel_rfl) (by kernel_rfl) (by kernel_rfl) (fun _ _ _ h => h) (Or.inl ⟨by kernel_rfl, ?_⟩) hS ?_
  · intro w hSw; go_simp
  try simp only [List.getElem_toArray, List.getElem_cons_succ, List.getElem_cons_zero, Act.put, List.setIfInBounds_toArray, List.set_cons_zero, List.set_cons_succ]
  refine wpAnyD_takeC (i := 23) (v := .pointer (some ⟨g, 4, none⟩)) [24] (fun _ => rfl) rfl (by kernel_rfl) 2 (by kernel_rfl) rfl (by kernel_rfl) (by kernel_rfl) (by kernel_rfl) (fun _ _ _ h => h) (Or.inl ⟨by kernel_rfl, ?_⟩) hS ?_
  · intro w hSw; go_simp
  try simp only [List.getElem_toArray, List.getElem_cons_succ, List.getElem_cons_zero, Act.put, List.setIfInBounds_toArray, List.set_cons_zero, List.set_cons_succ]
  obtain ⟨x0, x1, x2, x3, x4⟩ := cuCells hS
  have hf := cuFrozen hS
  refine wpAnyD_one (i := 24) rfl (by kernel_rfl) (fun K hK => ?_)
  replace hK := hide hK
  go_simp
  refine unhide hK _ _ (fun h => by cases h) ?_
  clear hK K x0 x1 x2 x3 x4 hf hS
  replace hst := unhide hst
  have hwc := (unhide hwb).setCell (p := ⟨g, 4, none⟩) h3 (.slice al' (nc + 1) cl')
  clear hwb
  generalize World.setCell _ _ _ = W4 at *
  refine wpAnyD_done (by kernel_rfl) ?_ _
  obtain ⟨hm, _⟩ := cu_moved hst k
  obtain ⟨vl2, vc2, h0, _, _, _⟩ := hst
  obtain ⟨x0, x1, x2, x3, x4⟩ := cuCells h0
  have hf := cuFrozen h0
  have hwd := hwc.setCell (p := ⟨g, 1, none⟩) h3 (.int .i64 k)
  have hadd : IntKind.i64.wrap ((p : Int) + (t.size : Nat)) = k := by rw [unhide hts, wrapI _ (by omega) (by omega)]; omega
  clear h0 hwc
  replace hm := hide hm
  replace hwd := hide hwd
  go_wp2
  go_end0
  refine ⟨rfl, ?_, unhide hwd⟩
  rw [unhide hnote]
  exact unhide hm
end Go.Proofs.Ytakllllnpdnpdaa
