/-
  The walks of package num's reading of texts: GetText; and what each law of num begins with: begun.
-/
import Derived.Test.YtafchnieimhlbaaNumPut
namespace Go.Proofs.Ytafchnieimhlbaa
open Go.RowKit
theorem getF_ok : ∀ (xs : List Int) (i u : Nat) (n k : Int), getF xs i u = (n, k, 0) → (i : Int) < k ∧ k ≤ i + xs.length
  | [], i, u, n, k, h => by simp [getF] at h
  | c :: r, i, u, n, k, h => by
    unfold getF at h
    split at h
    · simp at h
    · split at h
      · have := getF_ok r (i + 1) _ n k h
        simp only [List.length_cons]
        omega
      · split at h
        · simp at h
        · simp only [Prod.mk.injEq] at h
          simp only [List.length_cons]
          omega
theorem getF_err : ∀ (xs : List Int) (i u : Nat), ((getF xs i u).2.2 = 0 ∨ getF xs i u = (0, 0, 1) ∨ getF xs i u = (0, 0, 2))
  | [], i, u => by simp [getF]
  | c :: r, i, u => by
    unfold getF
    split
    · simp
    · split
      · exact getF_err r (i + 1) _
      · split <;> simp
set_option maxHeartbeats 400000 in
theorem get_empty (ao : Option Addr) (cap : Nat) (w : World) :
    Calls Try.prog 16 #[.slice ao 0 cap] w fun e w' => e = .returned (.tuple #[.int .i64 0, .int .i64 0, .int .i64 2]) ∧ w' = w := by
  go_enter Try.func16, Try.ntmps16
  go_wp2
  go_rounds 1
  go_ret3
  exact ⟨rfl, rfl⟩
theorem get_any (v : Value) (xs : List Int) (w : World) (h : Bts w v xs) :
    Calls Try.prog 16 #[v] w fun e w' => e = .returned (.tuple #[.int .i64 (getM xs).1, .int .i64 (getM xs).2.1, .int .i64 (getM xs).2.2]) ∧ w' = w := by
  obtain ⟨hx, hl, ⟨rfl, ao, cap, rfl, _⟩ | ⟨b, off, cap, rfl, h0, h1, h2, h3, h4⟩⟩ := h
  · exact get_empty ao cap w
  · exact get_some b off cap xs w hx (by omega) h4

/-- The text at the beginning of some bytes. -/
def getTextM (xs : List Int) : List Int × Int × Int :=
  if (getM xs).2.2 = 0 then
    if (getM xs).1 < 0 ∨ 65536 < (getM xs).1 then ([], 0, 1)
    else if (xs.length : Int) - (getM xs).2.1 < (getM xs).1 then ([], 0, 2)
    else ((xs.drop (getM xs).2.1.toNat).take (getM xs).1.toNat, (getM xs).2.1 + (getM xs).1, 0)
  else ([], 0, (getM xs).2.2)
set_option maxHeartbeats 400000 in
set_option maxRecDepth 100000 in
theorem getText_any (v : Value) (xs : List Int) (w : World) (h : Bts w v xs) :
    Calls Try.prog 17 #[v] w fun e w' => e = .returned (.tuple #[.string (strOfNums (getTextM xs).1), .int .i64 (getTextM xs).2.1, .int .i64 (getTextM xs).2.2]) ∧ w' = w := by
  obtain ⟨n, k, er, hg⟩ : ∃ n k er, getM xs = (n, k, er) := ⟨_, _, _, rfl⟩
  have hgt : getTextM xs = if er = 0 then if n < 0 ∨ 65536 < n then ([], 0, 1) else if (xs.length : Int) - k < n then ([], 0, 2) else ((xs.drop k.toNat).take n.toNat, k + n, 0) else ([], 0, er) := by
    unfold getTextM; rw [hg]
  have hc := get_any v xs w h
  rw [hg] at hc
  have HC := hide hc
  clear hc
  by_cases he : er = 0
  · subst he
    have hk := getF_ok xs 0 0 n k hg
    obtain ⟨kn, rfl⟩ := Int.eq_ofNat_of_zero_le (show 0 ≤ k by omega)
    rw [if_pos rfl] at hgt
    obtain ⟨hx, hl, ⟨rfl, ao, cap, rfl, _⟩ | ⟨b, off, cap, rfl, h0, h1, h2, h3, h4⟩⟩ := h
    · simp at hk; omega
    by_cases hn : n < 0 ∨ 65536 < n
    · rw [if_pos hn] at hgt
      rw [hgt]
      clear hgt hg
      by_cases hn0 : n < 0
      · go_enter Try.func17, Try.ntmps17
        go_wp2_with (go_at_call 16; refine (unhide HC).mono ?_; rintro e w' ⟨rfl, rfl⟩)
        go_ret3
        exact ⟨rfl, rfl⟩
      · have hn1 : 65536 < n := by omega
        have hn0' : decide (n < 0) = false := by simpa using hn0
        go_enter Try.func17, Try.ntmps17
        go_wp2_with (go_at_call 16; refine (unhide HC).mono ?_; rintro e w' ⟨rfl, rfl⟩)
        go_ret3
        exact ⟨rfl, rfl⟩
    · rw [if_neg hn] at hgt
      have hn0 : 0 ≤ n := by omega
      have hn1 : n ≤ 65536 := by omega
      obtain ⟨m, rfl⟩ := Int.eq_ofNat_of_zero_le hn0
      by_cases hs : (xs.length : Int) - kn < m
      · rw [if_pos hs] at hgt
        rw [hgt]
        clear hgt hg
        go_enter Try.func17, Try.ntmps17
        go_wp2_with (go_at_call 16; refine (unhide HC).mono ?_; rintro e w' ⟨rfl, rfl⟩)
        all_goals (go_ret3; exact ⟨rfl, rfl⟩)
      · rw [if_neg hs] at hgt
        rw [hgt]
        clear hgt hg
        by_cases hck : cap = kn
        · obtain rfl : m = 0 := by omega
          have hcv := fun (w : World) (b off cap : Nat) => run_convert_bytes_arg (P := Try.prog) w 22 5 Try.underlying22 Try.underlying5 b off 0 cap [] rfl (fun i hi => by omega) 9 Try.underlying9
          subst hck
          go_enter Try.func17, Try.ntmps17
          go_wp2_with (go_at_call 16; refine (unhide HC).mono ?_; rintro e w' ⟨rfl, rfl⟩)
          go_ret3
          exact ⟨by simp, rfl⟩
        · have hcv := fun (cap : Nat) => run_convert_bytes_arg (P := Try.prog) w 22 5 Try.underlying22 Try.underlying5 b (off + kn) m cap ((xs.drop kn).take m) (by simp; omega) (by
            intro i hi
            rw [Nat.add_assoc, h4 (kn + i) (by omega)]
            congr 2
            simp [List.getD, hi]) 9 Try.underlying9
          have H4 := hide h4
          clear h4
          go_enter Try.func17, Try.ntmps17
          go_wp2_with (go_at_call 16; refine (unhide HC).mono ?_; rintro e w' ⟨rfl, rfl⟩)
          go_ret3
          exact ⟨by simp, rfl⟩
  · rw [if_neg he] at hgt
    rw [hgt]
    have her : er = 1 ∨ er = 2 := by
      have := getF_err xs 0 0
      rw [show getF xs 0 0 = (n, k, er) from hg] at this
      simp only [Prod.mk.injEq] at this
      omega
    clear hgt hg
    have heb : (er != 0) = true := by simp [he]
    go_enter Try.func17, Try.ntmps17
    go_wp2_with (go_at_call 16; refine (unhide HC).mono ?_; rintro e w' ⟨rfl, rfl⟩)
    go_ret3
    exact ⟨rfl, rfl⟩
theorem Bts.conv {w : World} {v : Value} {xs : List Int} (h : Bts w v xs) : (convert 22 9 v).run Try.prog w = .ok (.string (strOfNums xs)) w := by
  obtain ⟨hx, hl, ⟨rfl, ao, cap, rfl, _⟩ | ⟨b, off, cap, rfl, h0, h1, h2, h3, h4⟩⟩ := h
  · cases ao with
    | none => exact run_convert_bytes_nil w 22 5 Try.underlying22 Try.underlying5 0 cap 9 Try.underlying9
    | some a =>
      rw [run_convert_bytes_string w 22 9 5 _ 0 cap Try.underlying22 Try.underlying5 Try.underlying9]
      exact run_bytesToString w a 0 cap [] (by simp [loadCells, loadCellsFrom])
  · exact run_convert_bytes_arg w 22 5 Try.underlying22 Try.underlying5 b off xs.length cap xs rfl h4 9 Try.underlying9
theorem bts_two (w : World) (x y : Int) (hx : 0 ≤ x ∧ x ≤ 255) (hy : 0 ≤ y ∧ y ≤ 255) : Bts (w.alloc (.cells #[.int .u8 x, .int .u8 y] 5)) (.slice (some ⟨w.heap.size, 0, none⟩) 2 2) [x, y] := by
  have := Bts.ofCells (w := w.alloc (.cells #[.int .u8 x, .int .u8 y] 5)) (b := w.heap.size) (off := 0) (cap := 2) (xs := [x, y]) (by intro z hz; simp at hz; omega) (by simp) (by simp) (by omega) (by simp)
    (fun i hi => by
      match i, hi with
      | 0, _ => exact cell_alloc_at w #[.int .u8 x, .int .u8 y] 5 0 (by simp)
      | 1, _ => exact cell_alloc_at w #[.int .u8 x, .int .u8 y] 5 1 (by simp))
  exact this
theorem begun_math : getM [128, 1] = (64, 2, 0) ∧ getM [] = (0, 0, 2) ∧ digs (zz (-1)) = [1] ∧ getTextM ([] ++ (digs (zz 2) ++ bts ⟨#[97, 98]⟩)) = ([97, 98], 3, 0) := by decide
set_option maxHeartbeats 1000000 in
set_option maxRecDepth 100000 in
theorem begun_any (w : World) : Calls Try.prog 9 #[] w fun e w' => e = .returned (.bool true) ∧ Below w.heap.size w w' := by
  go_enter Try.func9, Try.ntmps9
  go_wp2_with fail
  refine (get_any _ [128, 1] _ (bts_two w 128 1 (by omega) (by omega))).mono ?_
  rw [begun_math.1]
  rintro e w1 ⟨rfl, rfl⟩
  go_wp2_with fail
  refine (get_any _ [] _ (bts_nil _)).mono ?_
  rw [begun_math.2.1]
  rintro e w1 ⟨rfl, rfl⟩
  go_wp2_with fail
  refine (putText_any _ [] ⟨#[97, 98]⟩ _ (bts_nil _) (by decide)).mono ?_
  rintro e w1 ⟨v1, rfl, hown1, hbel1⟩
  have hB1 := Bts.ofOwn hown1 (byt_append byt_nil (byt_append (digs_byt _ (by decide)) (bts_byt _))) (by decide)
  go_wp2_with fail
  refine (getText_any _ _ _ hB1).mono ?_
  rw [show ((⟨#[97, 98]⟩ : ByteArray).size : Int) = 2 from rfl, begun_math.2.2.2]
  rintro e w2 ⟨rfl, rfl⟩
  clear hown1 hB1
  have e97 : strOfNums [97, 98] = ⟨#[97, 98]⟩ := rfl
  have e1 : strOfNums ([] ++ [1]) = ⟨#[1]⟩ := rfl
  rw [e97]
  go_wp2_with fail
  refine (put_any _ [] (-1) _ (bts_nil _) (by decide) (by decide) (by decide)).mono ?_
  rw [begun_math.2.2.1]
  rintro e w3 ⟨v3, rfl, hown3, hbel3⟩
  have hcv := (Bts.ofOwn hown3 (byt_append byt_nil (by intro z hz; simp at hz; omega)) (by decide)).conv
  rw [e1] at hcv
  obtain ⟨ao, cp, hv3⟩ : ∃ ao cp, v3 = .slice ao 1 cp := own_shape hown3
  have hs1 := hbel1.size
  have hbel : Below w.heap.size w w3 := ((below_alloc w _).trans (hbel1.mono (by simp))).trans (hbel3.mono (by simp at hs1; omega))
  clear hown3 hbel1 hbel3 hs1
  subst hv3
  go_wp2
  go_ret
  exact ⟨rfl, hbel⟩
end Go.Proofs.Ytafchnieimhlbaa
