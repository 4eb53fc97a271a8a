/-
  NumBack's walk.
-/
import Derived.Test.YtafchnieimhlbaaAppendBts
import Derived.Test.YtafchnieimhlbaaTextMath
import Derived.Deep.RegionHeld
namespace Go.Proofs.Ytafchnieimhlbaa
open Go.RowKit
set_option linter.unusedSimpArgs false
theorem strOf_append (a b : List Int) : strOfNums a ++ strOfNums b = strOfNums (a ++ b) := by
  apply ByteArray.ext
  apply Array.ext'
  rw [ByteArray.data_append, Array.toList_append]
  simp [strOfNums_data]
/-- The condition may be made stronger on the way. -/
theorem wpAnyH_more {P : Program} {md : Region.Mode} {ops : Array Oper} {Q : Exit → Act → World → Prop} {S S2 : World → Prop} (h : ∀ w, S2 w → S w) :
    ∀ (fuel : Nat) (listed : Array Bool) (a : Act) (w : World), wpAnyH P md ops Q S2 fuel listed a w → wpAnyH P md ops Q S fuel listed a w
  | 0, _, _, _, H => H
  | fuel + 1, _, _, _, H => ⟨H.1, fun i hi => wpOp_mono (fun a' w' h' => ⟨h w' h'.1, wpAnyH_more h fuel _ a' w' h'.2⟩) (H.2 i hi)⟩
/-- In w the slice v turned into a text is the bytes xs. -/
def Cv (v : Value) (xs : List Int) (w : World) : Prop := (convert 22 9 v).run Try.prog w = .ok (.string (strOfNums xs)) w
set_option maxHeartbeats 2000000 in
set_option maxRecDepth 100000 in
theorem numBack_shell (a0 : Option Addr) (len0 cap0 : Nat) (z0 : List Int) (a1 : Option Addr) (len1 cap1 : Nat) (z1 : List Int) (a2 : Int) (a3 : ByteArray) (w : World) (w0 : IsRow .u8 w a0 len0 cap0 z0) (w1 : IsRow .u8 w a1 len1 cap1 z1) (w2 : (Lit.int .i64 a2).wf = true) (w3 : a3.size ≤ maxLen) :
    Calls Try.prog 3 #[.slice a0 len0 cap0, .slice a1 len1 cap1, .int .i64 a2, .string a3] w fun e w' => e = .returned (.bool true) ∧ Below w.heap.size w w' := by
  obtain ⟨hn0, hn1⟩ := bounds_i64 w2
  have hct := cutS_le a3 100
  have hcall := fun w => cut_any a3 100 w w3 (by omega)
  have HCU := hide hcall
  clear hcall w2
  generalize cutS a3 100 = t at *
  go_enter Try.func3, Try.ntmps3
  go_wp2_with fail
  refine (begun_any _).mono ?_
  rintro e W1 ⟨rfl, hbel1⟩
  have w0' := w0.below hbel1
  have w1' := w1.below hbel1
  go_wp2_with fail
  refine (short_any a0 len0 cap0 z0 20 _ w0' (by omega)).mono ?_
  rintro e W1' ⟨rfl, hW⟩
  rw [hW]
  clear hW W1'
  go_wp2_with fail
  refine (short_any a1 len1 cap1 z1 20 _ w1' (by omega)).mono ?_
  rintro e W1' ⟨rfl, hW⟩
  rw [hW]
  clear hW W1'
  go_wp2_with fail
  refine (unhide HCU _).mono ?_
  rintro e W1' ⟨rfl, hW⟩
  rw [hW]
  clear hW W1'
  have hBa := short_bts (n := 20) w0' (by omega)
  have hBr := short_bts (n := 20) w1' (by omega)
  have hla : (z0.take (min len0 20)).length ≤ 20 := by simp; omega
  have hlr : (z1.take (min len1 20)).length ≤ 20 := by simp; omega
  have hmA : min len0 20 = (z0.take (min len0 20)).length := by
    obtain ⟨ao, cp, h⟩ := hBa.len
    simp only [Value.slice.injEq] at h
    exact h.2.1
  have hmR : min len1 20 = (z1.take (min len1 20)).length := by
    obtain ⟨ao, cp, h⟩ := hBr.len
    simp only [Value.slice.injEq] at h
    exact h.2.1
  generalize z0.take (min len0 20) = A at *
  generalize z1.take (min len1 20) = R at *
  rw [hmA] at hBa ⊢
  rw [hmR] at hBr ⊢
  clear w0 w1 w0' w1' hmA hmR HCU
  have hdl := digs_len (zz a2)
  have hdt := digs_len (zz t.size)
  have htl := bts_length t
  go_wp2_with (at_builtin; refine wpList_append_bts _ rfl _ _ rfl _ _ _ _ rfl (World.ownsRow_nil _ _ _ _) _ _ rfl hBa (by omega) (Nat.le_refl _) ?_)
  intro v1 W2 hown1 hgrow1
  have hs1 := hbel1.size
  have hb2 : Below W1.heap.size W1 W2 := (Below.refl _ _).grown hgrow1 (Nat.le_refl _) (fun k hk => by simp [Value.ownBlock] at hk)
  have hB1 : Bts W2 v1 A := Bts.ofOwn (by simpa using hown1) hBa.1 (by omega)
  clear hown1 hgrow1
  go_wp2_with fail
  refine (put_any _ _ a2 _ hB1 (by omega) hn0 hn1).mono ?_
  rintro e W3 ⟨vb, rfl, hownb, hb3⟩
  have hs2 := hb2.size
  have hBb := Bts.ofOwn hownb (byt_append hBa.1 (digs_byt _ (zz_lt a2 hn0 hn1))) (by simp; omega)
  obtain ⟨bb, bo, bc, rfl, hbc1, hbc2⟩ := bts_some hBb (by simp; omega)
  have hb13 : Below W1.heap.size W1 W3 := hb2.trans (hb3.mono hs2)
  have hBa3 := hBa.below hb13 (Nat.le_refl _)
  have hBr3 := hBr.below hb13 (Nat.le_refl _)
  clear hownb hB1 hb2 hb3 hBa hBr
  go_wp2_with (at_builtin; refine wpList_append_bts _ rfl _ _ rfl _ _ _ _ rfl (World.ownsRow_nil _ _ _ _) _ _ rfl hBa3 (by omega) (Nat.le_refl _) ?_)
  intro v4 W4 hown4 hgrow4
  have hb4 : Below W3.heap.size W3 W4 := (Below.refl _ _).grown hgrow4 (Nat.le_refl _) (fun k hk => by simp [Value.ownBlock] at hk)
  have hB4 : Bts W4 v4 A := Bts.ofOwn (by simpa using hown4) hBa3.1 (by omega)
  clear hown4 hgrow4
  go_wp2_with fail
  refine (putText_any _ _ t _ hB4 (by omega)).mono ?_
  rintro e W5 ⟨vc, rfl, hownc, hb5⟩
  have hBc := Bts.ofOwn hownc (byt_append hBa3.1 (byt_append (digs_byt _ (zz_lt t.size (by omega) (by omega))) (bts_byt t))) (by simp; omega)
  obtain ⟨cb, co, cc, rfl, hcc1, hcc2⟩ := bts_some hBc (by simp; omega)
  have hb35 : Below W3.heap.size W3 W5 := hb4.trans (hb5.mono hb4.size)
  have hBa5 := hBa3.below hb35 (Nat.le_refl _)
  have hBr5 := hBr3.below hb35 (Nat.le_refl _)
  have hBb5 := hBb.below hb35 (Nat.le_refl _)
  have hbw5 : Below w.heap.size w W5 := (hbel1.trans (hb13.mono hs1)).trans (hb35.mono (Nat.le_trans hs1 hb13.size))
  clear hownc hB4 hb4 hb5 hBa3 hBr3 hBb hb13 hb35 hbel1 hs1 hs2
  go_wp2_with fail
  have hBb5' : Bts W5 (Value.slice (some ⟨bb, bo, none⟩) (A.length + (digs (zz a2)).length) bc) (A ++ digs (zz a2)) := by simpa only [List.length_append] using hBb5
  have hBc' : Bts W5 (Value.slice (some ⟨cb, co, none⟩) (A.length + ((digs (zz t.size)).length + t.size)) cc) (A ++ (digs (zz t.size) ++ bts t)) := by
    have h := hBc
    simp only [List.length_append, htl] at h
    exact h
  simp only [List.length_append, htl] at hbc1 hcc1
  have hrp := fun w => rput_any a2 w hn0 hn1
  have hrt := fun w => rputText_any t w (by omega)
  have hDb := digs_byt _ (zz_lt a2 hn0 hn1)
  have hEb := digs_byt _ (zz_lt t.size (by omega) (by omega))
  have hTb := bts_byt t
  have hgm := getM_digs (zz a2) R (zz_lt a2 hn0 hn1)
  rw [uz_zz] at hgm
  have hgt := getTextM_whole t (by omega) R
  have hst := strOf_bts t
  clear hBb5 hBc
  generalize digs (zz a2) = D at *
  generalize digs (zz t.size) = E at *
  generalize hTd : bts t = T at *
  have HGM := hide hgm
  have HGT := hide hgt
  have HST := hide hst
  have HTL := hide htl
  have HRP := hide hrp
  have HRT := hide hrt
  clear hgm hgt hst htl hTd hrp hrt
  have hd5 : Below W5.heap.size W5 W5.drew := (Below.refl _ _).drew
  refine wp_region_held_drew (S := fun w' => Cv (Value.slice (some ⟨bb, bo, none⟩) (A.length + D.length) bc) (A ++ D) w' ∧ Cv (Value.slice a0 A.length cap0) A w' ∧ Cv (Value.slice (some ⟨cb, co, none⟩) (A.length + (E.length + t.size)) cc) (A ++ (E ++ T)) w') (by kernel_rfl) ⟨(hBb5'.below hd5 (Nat.le_refl _)).conv, (hBa5.below hd5 (Nat.le_refl _)).conv, (hBc'.below hd5 (Nat.le_refl _)).conv⟩ (fun hHeld => ?_)
  refine wpAnyH_take (i := 0) (v := Value.slice (some ⟨bb, bo, none⟩) (A.length + D.length) bc) rfl (by kernel_rfl) (by kernel_rfl) (by kernel_rfl) (fun _ _ _ h => h) (Or.inl ⟨by kernel_rfl, ?_⟩) hHeld ?_
  · intro w hSw; go_simp
  simp only [List.getElem_toArray, List.getElem_cons_succ, List.getElem_cons_zero, Act.put, List.setIfInBounds_toArray, List.set_cons_zero, List.set_cons_succ]
  refine wpAnyH_take (i := 1) (v := .string (strOfNums (A ++ D))) rfl (by kernel_rfl) (by kernel_rfl) (by kernel_rfl) (fun _ _ _ h => h) (Or.inl ⟨by kernel_rfl, ?_⟩) hHeld ?_
  · intro w hSw; have hcv := hSw.1; unfold Cv at hcv; go_simp
  simp only [List.getElem_toArray, List.getElem_cons_succ, List.getElem_cons_zero, Act.put, List.setIfInBounds_toArray, List.set_cons_zero, List.set_cons_succ]
  refine wpAnyH_take (i := 2) (v := Value.slice a0 A.length cap0) rfl (by kernel_rfl) (by kernel_rfl) (by kernel_rfl) (fun _ _ _ h => h) (Or.inl ⟨by kernel_rfl, ?_⟩) hHeld ?_
  · intro w hSw; go_simp
  simp only [List.getElem_toArray, List.getElem_cons_succ, List.getElem_cons_zero, Act.put, List.setIfInBounds_toArray, List.set_cons_zero, List.set_cons_succ]
  refine wpAnyH_take (i := 3) (v := .string (strOfNums A)) rfl (by kernel_rfl) (by kernel_rfl) (by kernel_rfl) (fun _ _ _ h => h) (Or.inl ⟨by kernel_rfl, ?_⟩) hHeld ?_
  · intro w hSw; have hcv := hSw.2.1; unfold Cv at hcv; go_simp
  simp only [List.getElem_toArray, List.getElem_cons_succ, List.getElem_cons_zero, Act.put, List.setIfInBounds_toArray, List.set_cons_zero, List.set_cons_succ]
  refine wpAnyH_take (i := 4) (v := .int .i64 a2) rfl (by kernel_rfl) (by kernel_rfl) (by kernel_rfl) (fun _ _ _ h => h) (Or.inl ⟨by kernel_rfl, ?_⟩) hHeld ?_
  · intro w hSw; go_simp
  simp only [List.getElem_toArray, List.getElem_cons_succ, List.getElem_cons_zero, Act.put, List.setIfInBounds_toArray, List.set_cons_zero, List.set_cons_succ]
  refine wpAnyH_ready (rs := [5]) (by kernel_rfl) (by simp) ?_
  refine AllReadyH.cons rfl (fun K hK => ?_) AllReadyH.nil
  go_simp
  refine (unhide HRP _).mono ?_
  rintro e W6 ⟨v6, rfl, hown6, hb6⟩
  have hb56 : Below W5.heap.size W5 W6 := hd5.trans hb6
  have hB6 : Bts W6 v6 D := Bts.ofOwn hown6 hDb (by omega)
  clear hown6
  refine hK.out _ _ ⟨(hBb5'.below hb56 (Nat.le_refl _)).conv, (hBa5.below hb56 (Nat.le_refl _)).conv, (hBc'.below hb56 (Nat.le_refl _)).conv⟩ (fun hHeld => ?_)
  clear hK K
  refine wpAnyH_more (S2 := fun w' => Cv v6 D w' ∧ Cv (Value.slice (some ⟨bb, bo, none⟩) (A.length + D.length) bc) (A ++ D) w' ∧ Cv (Value.slice a0 A.length cap0) A w' ∧ Cv (Value.slice (some ⟨cb, co, none⟩) (A.length + (E.length + t.size)) cc) (A ++ (E ++ T)) w') (fun w h => h.2) _ _ _ _ ?_
  have hHeld2 : Cv v6 D W6 ∧ Cv (Value.slice (some ⟨bb, bo, none⟩) (A.length + D.length) bc) (A ++ D) W6 ∧ Cv (Value.slice a0 A.length cap0) A W6 ∧ Cv (Value.slice (some ⟨cb, co, none⟩) (A.length + (E.length + t.size)) cc) (A ++ (E ++ T)) W6 := ⟨hB6.conv, hHeld⟩
  refine wpAnyH_take (i := 6) (v := .string (strOfNums D)) rfl (by kernel_rfl) (by kernel_rfl) (by kernel_rfl) (fun _ _ _ h => h) (Or.inl ⟨by kernel_rfl, ?_⟩) hHeld2 ?_
  · intro w hSw; have hcv := hSw.1; unfold Cv at hcv; go_simp
  simp only [List.getElem_toArray, List.getElem_cons_succ, List.getElem_cons_zero, Act.put, List.setIfInBounds_toArray, List.set_cons_zero, List.set_cons_succ]
  refine wpAnyH_take (i := 7) (v := .string (strOfNums (A ++ D))) rfl (by kernel_rfl) (by kernel_rfl) (by kernel_rfl) (fun _ _ _ h => h) (Or.inl ⟨by kernel_rfl, ?_⟩) hHeld2 ?_
  · intro w hSw; go_simp; rw [if_neg (by rw [strOfNums_size, strOfNums_size]; omega), strOf_append]
  simp only [List.getElem_toArray, List.getElem_cons_succ, List.getElem_cons_zero, Act.put, List.setIfInBounds_toArray, List.set_cons_zero, List.set_cons_succ]
  refine wpAnyH_take (i := 8) (v := .bool false) rfl (by kernel_rfl) (by kernel_rfl) (by kernel_rfl) (fun _ _ _ h => h) (Or.inl ⟨by kernel_rfl, ?_⟩) hHeld2 ?_
  · intro w hSw; go_simp
  simp only [List.getElem_toArray, List.getElem_cons_succ, List.getElem_cons_zero, Act.put, List.setIfInBounds_toArray, List.set_cons_zero, List.set_cons_succ]
  refine wpAnyH_take (i := 9) (v := .bool false) rfl (by kernel_rfl) (by kernel_rfl) (by kernel_rfl) (fun _ _ _ h => h) (Or.inl ⟨by kernel_rfl, ?_⟩) hHeld2 ?_
  · intro w hSw; go_simp
  simp only [List.getElem_toArray, List.getElem_cons_succ, List.getElem_cons_zero, Act.put, List.setIfInBounds_toArray, List.set_cons_zero, List.set_cons_succ]
  refine wpAnyH_take (i := 10) (v := Value.slice (some ⟨cb, co, none⟩) (A.length + (E.length + t.size)) cc) rfl (by kernel_rfl) (by kernel_rfl) (by kernel_rfl) (fun _ _ _ h => h) (Or.inl ⟨by kernel_rfl, ?_⟩) hHeld2 ?_
  · intro w hSw; go_simp
  simp only [List.getElem_toArray, List.getElem_cons_succ, List.getElem_cons_zero, Act.put, List.setIfInBounds_toArray, List.set_cons_zero, List.set_cons_succ]
  refine wpAnyH_take (i := 11) (v := .string (strOfNums (A ++ (E ++ T)))) rfl (by kernel_rfl) (by kernel_rfl) (by kernel_rfl) (fun _ _ _ h => h) (Or.inl ⟨by kernel_rfl, ?_⟩) hHeld2 ?_
  · intro w hSw; have hcv := hSw.2.2.2; unfold Cv at hcv; go_simp
  simp only [List.getElem_toArray, List.getElem_cons_succ, List.getElem_cons_zero, Act.put, List.setIfInBounds_toArray, List.set_cons_zero, List.set_cons_succ]
  refine wpAnyH_take (i := 12) (v := Value.slice a0 A.length cap0) rfl (by kernel_rfl) (by kernel_rfl) (by kernel_rfl) (fun _ _ _ h => h) (Or.inl ⟨by kernel_rfl, ?_⟩) hHeld2 ?_
  · intro w hSw; go_simp
  simp only [List.getElem_toArray, List.getElem_cons_succ, List.getElem_cons_zero, Act.put, List.setIfInBounds_toArray, List.set_cons_zero, List.set_cons_succ]
  refine wpAnyH_take (i := 13) (v := .string (strOfNums A)) rfl (by kernel_rfl) (by kernel_rfl) (by kernel_rfl) (fun _ _ _ h => h) (Or.inl ⟨by kernel_rfl, ?_⟩) hHeld2 ?_
  · intro w hSw; have hcv := hSw.2.2.1; unfold Cv at hcv; go_simp
  simp only [List.getElem_toArray, List.getElem_cons_succ, List.getElem_cons_zero, Act.put, List.setIfInBounds_toArray, List.set_cons_zero, List.set_cons_succ]
  refine wpAnyH_take (i := 14) (v := .string t) rfl (by kernel_rfl) (by kernel_rfl) (by kernel_rfl) (fun _ _ _ h => h) (Or.inl ⟨by kernel_rfl, ?_⟩) hHeld2 ?_
  · intro w hSw; go_simp
  simp only [List.getElem_toArray, List.getElem_cons_succ, List.getElem_cons_zero, Act.put, List.setIfInBounds_toArray, List.set_cons_zero, List.set_cons_succ]
  refine wpAnyH_ready (rs := [15]) (by kernel_rfl) (by simp) ?_
  refine AllReadyH.cons rfl (fun K hK => ?_) AllReadyH.nil
  go_simp
  refine (unhide HRT _).mono ?_
  rintro e W7 ⟨v7, rfl, hown7, hb7⟩
  have hb67 : Below W5.heap.size W5 W7 := hb56.trans (hb7.mono hb56.size)
  have hB7 : Bts W7 v7 (E ++ T) := Bts.ofOwn hown7 (byt_append hEb hTb) (by simp only [List.length_append]; have := unhide HTL; omega)
  have hB6' := hB6.below hb7 (Nat.le_refl _)
  clear hown7
  refine hK.out _ _ ⟨hB6'.conv, (hBb5'.below hb67 (Nat.le_refl _)).conv, (hBa5.below hb67 (Nat.le_refl _)).conv, (hBc'.below hb67 (Nat.le_refl _)).conv⟩ (fun hHeld3 => ?_)
  clear hK K
  refine wpAnyH_more (S2 := fun w' => Cv v7 (E ++ T) w' ∧ (Cv v6 D w' ∧ Cv (Value.slice (some ⟨bb, bo, none⟩) (A.length + D.length) bc) (A ++ D) w' ∧ Cv (Value.slice a0 A.length cap0) A w' ∧ Cv (Value.slice (some ⟨cb, co, none⟩) (A.length + (E.length + t.size)) cc) (A ++ (E ++ T)) w')) (fun w h => h.2) _ _ _ _ ?_
  have hHeld4 : Cv v7 (E ++ T) W7 ∧ (Cv v6 D W7 ∧ Cv (Value.slice (some ⟨bb, bo, none⟩) (A.length + D.length) bc) (A ++ D) W7 ∧ Cv (Value.slice a0 A.length cap0) A W7 ∧ Cv (Value.slice (some ⟨cb, co, none⟩) (A.length + (E.length + t.size)) cc) (A ++ (E ++ T)) W7) := ⟨hB7.conv, hHeld3⟩
  refine wpAnyH_take (i := 16) (v := .string (strOfNums (E ++ T))) rfl (by kernel_rfl) (by kernel_rfl) (by kernel_rfl) (fun _ _ _ h => h) (Or.inl ⟨by kernel_rfl, ?_⟩) hHeld4 ?_
  · intro w hSw; have hcv := hSw.1; unfold Cv at hcv; go_simp
  simp only [List.getElem_toArray, List.getElem_cons_succ, List.getElem_cons_zero, Act.put, List.setIfInBounds_toArray, List.set_cons_zero, List.set_cons_succ]
  refine wpAnyH_take (i := 17) (v := .string (strOfNums (A ++ (E ++ T)))) rfl (by kernel_rfl) (by kernel_rfl) (by kernel_rfl) (fun _ _ _ h => h) (Or.inl ⟨by kernel_rfl, ?_⟩) hHeld4 ?_
  · intro w hSw; go_simp; rw [if_neg (by rw [strOfNums_size, strOfNums_size, List.length_append]; have := unhide HTL; omega), strOf_append]
  simp only [List.getElem_toArray, List.getElem_cons_succ, List.getElem_cons_zero, Act.put, List.setIfInBounds_toArray, List.set_cons_zero, List.set_cons_succ]
  refine wpAnyH_take (i := 18) (v := .bool false) rfl (by kernel_rfl) (by kernel_rfl) (by kernel_rfl) (fun _ _ _ h => h) (Or.inl ⟨by kernel_rfl, ?_⟩) hHeld4 ?_
  · intro w hSw; go_simp
  simp only [List.getElem_toArray, List.getElem_cons_succ, List.getElem_cons_zero, Act.put, List.setIfInBounds_toArray, List.set_cons_zero, List.set_cons_succ]
  refine wpAnyH_take (i := 19) (v := .bool false) rfl (by kernel_rfl) (by kernel_rfl) (by kernel_rfl) (fun _ _ _ h => h) (Or.inl ⟨by kernel_rfl, ?_⟩) hHeld4 ?_
  · intro w hSw; go_simp
  simp only [List.getElem_toArray, List.getElem_cons_succ, List.getElem_cons_zero, Act.put, List.setIfInBounds_toArray, List.set_cons_zero, List.set_cons_succ]
  refine wpAnyH_done (by kernel_rfl) ?_ _
  have hbw7 : Below w.heap.size w W7 := hbw5.trans (hb67.mono hbw5.size)
  have hBr7 := hBr5.below hb67 (Nat.le_refl _)
  have hBb7 := hBb5'.below hb67 (Nat.le_refl _)
  have hBc7 := hBc'.below hb67 (Nat.le_refl _)
  have hTl := unhide HTL
  have hBd := hBb7.drop (by simp only [List.length_append]; omega) A.length (by simp only [List.length_append]; omega)
  have hBe := hBc7.drop (by simp only [List.length_append]; omega) A.length (by simp only [List.length_append]; omega)
  rw [List.drop_left] at hBd hBe
  rw [List.length_append, Nat.add_sub_cancel_left] at hBd hBe
  rw [List.length_append, hTl] at hBe
  have hbcA : ¬ (bc = A.length) := by omega
  have hccA : ¬ (cc = A.length) := by omega
  clear hHeld hHeld2 hHeld3 hHeld4 hB6 hB6' hB7 HRP HRT hb56 hb6 hb7 hb67 hd5 hBa5 hBr5 hBb5' hBc' hBb7 hBc7 hbw5 hTl
  go_wp2_with (at_builtin; refine wpList_append_bts _ rfl _ _ rfl _ _ _ _ rfl (World.ownsRow_nil _ _ _ _) _ _ rfl hBd (by omega) (Nat.le_refl _) ?_)
  intro v8 W8 hown8 hgrow8
  have hb8 : Below W7.heap.size W7 W8 := (Below.refl _ _).grown hgrow8 (Nat.le_refl _) (fun k hk => by simp [Value.ownBlock] at hk)
  have hBr8 := hBr7.below hb8 (Nat.le_refl _)
  have hBe8 := hBe.below hb8 (Nat.le_refl _)
  have hs8 := hb8.size
  clear hgrow8
  go_wp2_with (at_builtin; refine wpList_append_bts _ rfl _ _ rfl _ _ _ _ rfl hown8 _ _ rfl hBr8 (by omega) hs8 ?_)
  intro v9 W9 hown9 hgrow9
  have hb9 : Below W7.heap.size W7 W9 := hb8.grown hgrow9 hs8 (fun k hk => (hown8.lt k hk).1)
  have hBr9 := hBr7.below hb9 (Nat.le_refl _)
  have hBe9 := hBe.below hb9 (Nat.le_refl _)
  have hB9 : Bts W9 v9 (D ++ R) := Bts.ofOwn (by rw [List.map_append]; exact hown9) (byt_append hDb hBr7.1) (by simp only [List.length_append]; omega)
  have hbw9 : Below w.heap.size w W9 := hbw7.trans (hb9.mono hbw7.size)
  clear hgrow9 hown8 hown9 hb8 hb9 hs8 hBr8 hBe8 hBr7 hBe hBd hbw7
  go_wp2_with fail
  refine (get_any _ _ _ hB9).mono ?_
  rw [unhide HGM]
  rintro e W9' ⟨rfl, hW⟩
  rw [hW]
  clear hW W9'
  go_wp2_with (at_builtin; refine wpList_append_bts _ rfl _ _ rfl _ _ _ _ rfl (World.ownsRow_nil _ _ _ _) _ _ rfl hBe9 (by have := unhide HTL; first | omega | (simp only [List.length_append]; omega)) (Nat.le_refl _) ?_)
  intro v10 W10 hown10 hgrow10
  have hb10 : Below W9.heap.size W9 W10 := (Below.refl _ _).grown hgrow10 (Nat.le_refl _) (fun k hk => by simp [Value.ownBlock] at hk)
  have hBr10 := hBr9.below hb10 (Nat.le_refl _)
  have hs10 := hb10.size
  clear hgrow10
  go_wp2_with (at_builtin; refine wpList_append_bts _ rfl _ _ rfl _ _ _ _ rfl hown10 _ _ rfl hBr10 (by have := unhide HTL; first | omega | (simp only [List.length_append]; omega)) hs10 ?_)
  intro v11 W11 hown11 hgrow11
  have hb11 : Below W9.heap.size W9 W11 := hb10.grown hgrow11 hs10 (fun k hk => (hown10.lt k hk).1)
  have hB11 : Bts W11 v11 (E ++ (T ++ R)) := by
    have h : W11.ownsRow W9.heap.size 5 1 v11 (E.length + T.length + R.length) ((E ++ (T ++ R)).map (Value.int .u8)) := by
      simpa using hown11
    exact Bts.ofOwn h (byt_append hEb (byt_append hTb hBr9.1)) (by simp only [List.length_append]; have := unhide HTL; omega)
  have hbw11 : Below w.heap.size w W11 := hbw9.trans (hb11.mono hbw9.size)
  clear hgrow11 hown10 hown11 hb10 hb11 hs10 hBr10 hBr9 hBe9 hbw9 hB9
  go_wp2_with fail
  have hgcall := getText_any _ _ _ hB11
  rw [unhide HGT] at hgcall
  dsimp only at hgcall
  rw [unhide HST] at hgcall
  refine hgcall.mono ?_
  clear hgcall
  rintro e W11' ⟨rfl, hW⟩
  rw [hW]
  clear hW W11'
  clear HGM HGT HST HTL hDb hEb hTb hB11 w3 hbcA hccA hHeld
  generalize E.length + t.size = q at *
  generalize A.length = la at *
  generalize D.length = ld at *
  have f1 : ((ld : Int) == ((la + ld : Nat) : Int) - (la : Int)) = true := by simp; omega
  have f2 : ((q : Int) == ((la + q : Nat) : Int) - (la : Int)) = true := by simp; omega
  have g1 : la ≤ la + ld := by omega
  have g2 : la ≤ la + q := by omega
  generalize la + ld = lb at *
  generalize la + q = lc at *
  clear hn0 hn1 hct hlr hdt
  go_wp2
  go_ret
  exact ⟨rfl, hbw11⟩
end Go.Proofs.Ytafchnieimhlbaa
