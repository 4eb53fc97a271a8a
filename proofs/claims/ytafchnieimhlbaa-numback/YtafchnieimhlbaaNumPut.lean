/-
  The walks of package num's writing, second part: Put, PutText.
-/
import Derived.Test.YtafchnieimhlbaaNumDigits
namespace Go.Proofs.Ytafchnieimhlbaa
open Go.RowKit
theorem own_shape {w : World} {base e : Nat} {v : Value} {n : Nat} {xs : List Value} (h : w.ownsRow base e 1 v n xs) : ∃ ao cap, v = .slice ao n cap := by
  obtain ⟨ao, cap, h, _⟩ := own_ne h
  exact ⟨ao, cap, h⟩
theorem own_base {w : World} {base base' e : Nat} {v : Value} {n : Nat} {xs : List Value} (h : w.ownsRow base e 1 v n xs) (hb : base' ≤ base) : w.ownsRow base' e 1 v n xs := by
  refine ⟨h.1, ?_⟩
  rcases h.2 with h | ⟨g, cap, cur, h1, h2, h3⟩
  · exact .inl h
  · exact .inr ⟨g, cap, cur, h1, Nat.le_trans hb h2, h3⟩
theorem cell_alloc_at (w : World) (cs : Array Value) (t : Nat) (i : Nat) (h : i < cs.size) : (w.alloc (.cells cs t)).cell? ⟨w.heap.size, 0 + i, none⟩ = some (cs.getD i undef) := by
  rw [Nat.zero_add, cell_of_row _ w.heap.size i cs t (0, 0) (heap_alloc_new w _)]
  simp [Array.getD, h]
theorem below_alloc (w : World) (o : Obj) : Below w.heap.size w (w.alloc o) := (Below.refl _ _).alloc (Nat.le_refl _) o

theorem concat2 (v0 v1 : Value) (xs0 xs1 : List Int) (w : World) (h0 : Bts w v0 xs0) (h1 : Bts w v1 xs1) (hsz : xs0.length + xs1.length ≤ 140737488355328) :
    Calls Try.prog 20 #[.slice (some ⟨w.heap.size, 0, none⟩) 2 2] (w.alloc (.cells #[v0, v1] 22)) fun e w' => ∃ v, e = .returned v ∧ w'.ownsRow w.heap.size 5 1 v (xs0 ++ xs1).length ((xs0 ++ xs1).map (Value.int .u8)) ∧ Below w.heap.size w w' := by
  have hs : (w.alloc (.cells #[v0, v1] 22)).heap.size = w.heap.size + 1 := by simp
  have hb := below_alloc w (.cells #[v0, v1] 22)
  have := concat_any w.heap.size 0 2 [v0, v1] [xs0, xs1] (w.alloc (.cells #[v0, v1] 22)) rfl
    (fun i hi => by
      match i, hi with
      | 0, _ => exact h0.below hb (Nat.le_refl _)
      | 1, _ => exact h1.below hb (Nat.le_refl _))
    (fun i hi => by
      match i, hi with
      | 0, _ => exact cell_alloc_at w #[v0, v1] 22 0 (by simp)
      | 1, _ => exact cell_alloc_at w #[v0, v1] 22 1 (by simp))
    (by rw [hs]; omega) (by simp) (by simpa using hsz)
  refine this.mono fun e w' ⟨v, he, hown, hbel⟩ => ⟨v, he, ?_, hb.trans (hbel.mono (by rw [hs]; omega))⟩
  have e2 : [xs0, xs1].flatten = xs0 ++ xs1 := by simp
  rw [e2] at hown
  exact own_base hown (by rw [hs]; omega)
theorem concat3 (v0 v1 v2 : Value) (xs0 xs1 xs2 : List Int) (w : World) (g : Nat) (hg : w.heap.size = g) (h0 : Bts w v0 xs0) (h1 : Bts w v1 xs1) (h2 : Bts w v2 xs2) (hsz : xs0.length + (xs1.length + xs2.length) ≤ 140737488355328) :
    Calls Try.prog 20 #[.slice (some ⟨g, 0, none⟩) 3 3] (w.alloc (.cells #[v0, v1, v2] 22)).drew fun e w' => ∃ v, e = .returned v ∧ w'.ownsRow g 5 1 v (xs0 ++ (xs1 ++ xs2)).length ((xs0 ++ (xs1 ++ xs2)).map (Value.int .u8)) ∧ Below g w w' := by
  subst hg
  have hs : (w.alloc (.cells #[v0, v1, v2] 22)).drew.heap.size = w.heap.size + 1 := by simp
  have hb := (below_alloc w (.cells #[v0, v1, v2] 22)).drew
  have := concat_any w.heap.size 0 3 [v0, v1, v2] [xs0, xs1, xs2] (w.alloc (.cells #[v0, v1, v2] 22)).drew rfl
    (fun i hi => by
      match i, hi with
      | 0, _ => exact h0.below hb (Nat.le_refl _)
      | 1, _ => exact h1.below hb (Nat.le_refl _)
      | 2, _ => exact h2.below hb (Nat.le_refl _))
    (fun i hi => by
      match i, hi with
      | 0, _ => exact cell_alloc_at w #[v0, v1, v2] 22 0 (by simp)
      | 1, _ => exact cell_alloc_at w #[v0, v1, v2] 22 1 (by simp)
      | 2, _ => exact cell_alloc_at w #[v0, v1, v2] 22 2 (by simp))
    (by rw [hs]; omega) (by simp) (by simpa using hsz)
  refine this.mono fun e w' ⟨v, he, hown, hbel⟩ => ⟨v, he, ?_, hb.trans (hbel.mono (by rw [hs]; omega))⟩
  have e2 : [xs0, xs1, xs2].flatten = xs0 ++ (xs1 ++ xs2) := by simp
  rw [e2] at hown
  exact own_base hown (by rw [hs]; omega)
set_option maxHeartbeats 400000 in
set_option maxRecDepth 100000 in
theorem put_any (v : Value) (xs : List Int) (n : Int) (w : World) (hv : Bts w v xs) (hl : xs.length ≤ 140737488351232) (h0 : -9223372036854775808 ≤ n) (h1 : n ≤ 9223372036854775807) :
    Calls Try.prog 12 #[v, .int .i64 n] w fun e w' => ∃ v', e = .returned v' ∧ w'.ownsRow w.heap.size 5 1 v' (xs ++ digs (zz n)).length ((xs ++ digs (zz n)).map (Value.int .u8)) ∧ Below w.heap.size w w' := by
  have hdl := digs_len (zz n)
  obtain ⟨ao, cap, rfl⟩ := hv.len
  go_enter Try.func12, Try.ntmps12
  go_wp2_with (go_at_call 21; refine (digits_any n _ h0 h1).mono ?_; rintro e w1 ⟨v1, rfl, hown1, hbel1⟩; obtain ⟨ao1, cap1, rfl⟩ := own_shape hown1)
  have hB0 := hv.below hbel1 (Nat.le_refl _)
  have hB1 := Bts.ofOwn hown1 (digs_byt _ (zz_lt n h0 h1)) (by omega)
  refine (concat2 _ _ _ _ _ hB0 hB1 (by omega)).mono ?_
  rintro e w2 ⟨v2, rfl, hown2, hbel2⟩
  have hs := hbel1.size
  clear hown1 hB0 hB1
  go_wp2
  go_ret
  exact ⟨_, rfl, own_base hown2 hs, hbel1.trans (hbel2.mono hs)⟩
def bts (s : ByteArray) : List Int := s.data.toList.map fun b => (b.toNat : Int)
theorem bts_length (s : ByteArray) : (bts s).length = s.size := by
  unfold bts
  rw [List.length_map, Array.length_toList]
  rfl
theorem bts_byt (s : ByteArray) : Byt (bts s) := by
  intro x hx
  obtain ⟨b, _, rfl⟩ := List.mem_map.1 hx
  have := b.toNat_lt
  omega
theorem bytesRow_cell (w : World) (s : ByteArray) (G e lo hi : Nat) (i : Nat) (h : i < s.size) : (w.alloc (.cells (bytesRow s G) e (lo, hi))).cell? ⟨w.heap.size, 0 + i, none⟩ = some (.int .u8 ((bts s).getD i 0)) := by
  rw [Nat.zero_add, cell_of_row _ w.heap.size i (bytesRow s G) e (lo, hi) (heap_alloc_new w _), bytesRow_at s G i h]
  have hl : i < (bts s).length := by rw [bts_length]; exact h
  have e2 : (bts s).getD i 0 = (s.data[i].toNat : Int) := by
    simp only [List.getD, List.getElem?_eq_getElem hl, Option.getD_some]
    simp [bts]
  rw [e2]
theorem bts_made (w : World) (s : ByteArray) (G e lo hi : Nat) (hG : s.size ≤ G) (hG2 : G ≤ 9223372036854775807) (hs : s.size ≤ 140737488355328) :
    Bts (w.alloc (.cells (bytesRow s G) e (lo, hi))) (.slice (some ⟨w.heap.size, 0, none⟩) s.size G) (bts s) := by
  have := Bts.ofCells (w := w.alloc (.cells (bytesRow s G) e (lo, hi))) (b := w.heap.size) (off := 0) (cap := G) (bts_byt s) (by rw [bts_length]; exact hs) (by rw [bts_length]; exact hG) hG2 (by simp)
    (fun i hi' => bytesRow_cell w s G e lo hi i (by rw [bts_length] at hi'; exact hi'))
  rw [bts_length] at this
  exact this
set_option maxHeartbeats 400000 in
set_option maxRecDepth 100000 in
theorem putText_any (v : Value) (xs : List Int) (s : ByteArray) (w : World) (hv : Bts w v xs) (hl : xs.length + s.size ≤ 140737488351232) :
    Calls Try.prog 13 #[v, .string s] w fun e w' => ∃ v', e = .returned v' ∧ w'.ownsRow w.heap.size 5 1 v' (xs ++ (digs (zz s.size) ++ bts s)).length ((xs ++ (digs (zz s.size) ++ bts s)).map (Value.int .u8)) ∧ Below w.heap.size w w' := by
  have hdl := digs_len (zz s.size)
  obtain ⟨ao, cap, rfl⟩ := hv.len
  have hcv := fun w => run_bytes_of_string (P := Try.prog) w 9 22 5 s Try.underlying9 Try.underlying22 Try.underlying5
  go_enter Try.func13, Try.ntmps13
  go_wp2_with (go_at_call 21; refine (digits_any s.size _ (by omega) (by omega)).mono ?_; rintro e w1 ⟨v1, rfl, hown1, hbel1⟩; obtain ⟨ao1, cap1, rfl⟩ := own_shape hown1)
  have hs := hbel1.size
  have hG1 := grownCap_ge w1 s.size 0 5
  have hG2 := grownCap_le_maxLen w1 s.size 0 5 (by unfold maxLen; omega)
  unfold maxLen at hG2
  have hB1 := Bts.ofOwn hown1 (digs_byt _ (zz_lt s.size (by omega) (by omega))) (by omega)
  generalize grownCap w1 s.size 0 5 = G at *
  generalize (bytesRow s G).size = R at *
  have hba := below_alloc w1 (.cells (bytesRow s G) 5 (R, R + 1))
  refine (concat3 _ _ _ _ _ _ _ _ (by simp) ((hv.below hbel1 (Nat.le_refl _)).below hba (Nat.le_refl _)) (hB1.below hba (Nat.le_refl _)) (bts_made w1 s G 5 R (R + 1) hG1 (by omega) (by omega)) (by rw [bts_length]; omega)).mono ?_
  rintro e w2 ⟨v2, rfl, hown2, hbel2⟩
  clear hown1 hB1 hcv
  go_wp2
  go_ret
  exact ⟨_, rfl, own_base hown2 (by omega), (hbel1.trans (hba.mono hs)).trans (hbel2.mono (by omega))⟩
end Go.Proofs.Ytafchnieimhlbaa
