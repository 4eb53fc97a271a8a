/-
  ParseSemis' walk.
-/
import Derived.Test.YtdjjbdmnjegfjaaB23
import Derived.KernelRfl
namespace Go.Proofs.Ytdjjbdmnjegfjaa
open Go.RowKit Go.Lib Go.Sort
set_option linter.unusedSimpArgs false
set_option linter.unusedVariables false
set_option maxRecDepth 100000
def gapA : Nat → List UInt8
  | 0 => []
  | i + 1 => if i % 2 = 1 then gapA i ++ [59] ++ [10] else gapA i ++ [59]
def seT (n : Nat) (last : Bool) : List UInt8 := [112, 97, 99, 107, 97, 103, 101, 32, 112] ++ gapA n ++ [102, 117, 110, 99, 32, 102, 40, 41, 32, 123] ++ gapA n ++ [97] ++ gapA n ++ [98] ++ (if last then [59] else []) ++ [125] ++ gapA n
def seK : F → Bool
  | .cons k1 _ _ (.cons k2 _ (.cons _ _ (.cons _ _ _ (.cons _ _ _ .nil)) .nil) .nil) => decide (k1 = 2) && decide (k2 = 8)
  | _ => false
theorem seK_inv {l : F} (h : seK l = true) : ∃ t1 c1 t2 k3 t3 c3, l = .cons 2 t1 c1 (.cons 8 t2 (.cons k3 t3 c3 .nil) .nil) ∧ c3.len = 2 := by
  unfold seK at h
  split at h
  · simp only [Bool.and_eq_true, decide_eq_true_eq] at h
    obtain ⟨rfl, rfl⟩ := h
    exact ⟨_, _, _, _, _, _, rfl, rfl⟩
  · cases h
def seChk (n : Nat) (last : Bool) : Bool := decide ((scanA (bs (seT n last))).2.2 = -1) && decide (0 < (scanA (bs (seT n last))).1.length) && decide ((scanA (bs (seT n last))).1.length ≤ 1000) && decide ((seT n last).length ≤ 1000) &&
  (match filU (scanA (bs (seT n last))).1 60 0 with | .ok l _ => seK l | _ => false)
theorem se_all : ((List.range 9).all fun n => n == 0 || (seChk n true && seChk n false)) = true := by kernel_rfl
theorem se_at {n : Nat} (hn : n < 9) (h0 : 0 < n) (last : Bool) : seChk n last = true := by
  have h := List.all_eq_true.1 se_all n (List.mem_range.2 hn)
  rw [Bool.or_eq_true] at h
  rcases h with h | h
  · rw [beq_iff_eq] at h; omega
  · rw [Bool.and_eq_true] at h
    cases last
    · exact h.2
    · exact h.1
theorem gapA_len : ∀ n : Nat, (gapA n).length ≤ 2 * n
  | 0 => by simp [gapA]
  | n + 1 => by
    have := gapA_len n
    unfold gapA
    split <;> simp only [List.length_append, List.length_cons, List.length_nil] <;> omega
theorem se_text (n : Nat) (hn : n < 9) (h0 : 0 < n) (last : Bool) (w : World) : Calls Try.prog 11 #[.string (bs (seT n last))] w fun e w' => ∃ (a : Option Addr) (m c : Nat) (v : Value), e = .returned (.tuple #[.agg #[.int .i64 1, .int .i64 0, .slice a m c], v, .int .i64 (-1)]) ∧ (∃ t1 c1 t2 k3 t3 c3, SlQ (fun y => w.heap.size ≤ y) w' a m c (.cons 2 t1 c1 (.cons 8 t2 (.cons k3 t3 c3 .nil) .nil)) ∧ c3.len = 2) ∧ Below w.heap.size w w' := by
  have hc := se_at hn h0 last
  unfold seChk at hc
  simp only [Bool.and_eq_true, decide_eq_true_eq] at hc
  obtain ⟨⟨⟨⟨h1, h2⟩, h3⟩, h5⟩, h4⟩ := hc
  split at h4
  · rename_i l o hl
    obtain ⟨t1, c1, t2, k3, t3, c3, rfl, hC⟩ := seK_inv h4
    refine (paText_ok (bs (seT n last)) w (by rw [bs_size]; omega) (by rw [h1]; decide) h2 (by omega) (f := 60) (by decide) _ _ (filA_ok hl)).mono ?_
    rintro e w' ⟨a, m, c', v, rfl, hs, hT, hb⟩
    exact ⟨a, m, c', v, rfl, ⟨t1, c1, t2, k3, t3, c3, hs, hC⟩, hb⟩
  · cases h4
set_option maxHeartbeats 8000000 in
theorem parseSemis_shell (a0 : Int) (a1 : Bool) (w0 : (Lit.int .i64 a0).wf = true) (w : World) :
    Calls Try.prog 6 #[.int .i64 a0, .bool a1] w fun e w' => e = .returned (.bool true) ∧ Below w.heap.size w w' := by
  obtain ⟨hn0, hn1⟩ := bounds_i64 w0
  clear w0
  have HB := fun w => plBegun_any w
  replace HB := hide HB
  by_cases h1 : a0 < 1
  · go_enter Try.func6, Try.ntmps6
    go_wp2_with fail
    refine (unhide HB _).mono ?_
    rintro e W1 ⟨rfl, hb1⟩
    go_wp2
    go_ret
    exact ⟨rfl, hb1⟩
  by_cases h2 : 8 < a0
  · go_enter Try.func6, Try.ntmps6
    go_wp2_with fail
    refine (unhide HB _).mono ?_
    rintro e W1 ⟨rfl, hb1⟩
    go_wp2
    go_ret
    exact ⟨rfl, hb1⟩
  obtain ⟨n, rfl⟩ : ∃ n : Nat, a0 = n := ⟨a0.toNat, by omega⟩
  have HT := hide (se_text n (by omega) (by omega) a1)
  have hE : ∀ E : ByteArray, E = bs (if a1 then [59] else []) → ⟨#[112, 97, 99, 107, 97, 103, 101, 32, 112]⟩ ++ bs (gapA n) ++ ⟨#[102, 117, 110, 99, 32, 102, 40, 41, 32, 123]⟩ ++ bs (gapA n) ++ ⟨#[97]⟩ ++ bs (gapA n) ++ ⟨#[98]⟩ ++ E ++ ⟨#[125]⟩ ++ bs (gapA n) = bs (seT n a1) := fun E hE => by
    subst hE
    show bs [112, 97, 99, 107, 97, 103, 101, 32, 112] ++ bs (gapA n) ++ bs [102, 117, 110, 99, 32, 102, 40, 41, 32, 123] ++ bs (gapA n) ++ bs [97] ++ bs (gapA n) ++ bs [98] ++ bs (if a1 then [59] else []) ++ bs [125] ++ bs (gapA n) = _
    simp only [bs_app]
    rfl
  have hodd : ∀ i : Nat, i % 2 = 1 → bs (gapA i) ++ (⟨#[59]⟩ : ByteArray) ++ ⟨#[10]⟩ = bs (gapA (i + 1)) := fun i hi => by
    show bs (gapA i) ++ bs [59] ++ bs [10] = _
    rw [bs_app, bs_app, gapA, if_pos hi]
  have heven : ∀ i : Nat, ¬ i % 2 = 1 → bs (gapA i) ++ (⟨#[59]⟩ : ByteArray) = bs (gapA (i + 1)) := fun i hi => by
    show bs (gapA i) ++ bs [59] = _
    rw [bs_app, gapA, if_neg hi]
  have hsz : ∀ i : Nat, i ≤ 8 → (bs (gapA i)).size ≤ 16 := fun i hi => by have := gapA_len i; rw [bs_size]; omega
  replace hE := hide hE
  replace hodd := hide hodd
  replace heven := hide heven
  go_enter Try.func6, Try.ntmps6
  go_wp2_with fail
  refine (unhide HB _).mono ?_
  rintro e W1 ⟨rfl, hb1⟩
  clear HB
  replace hb1 := hide hb1
  go_wp2
  go_loopg [6, 7] n (fun gf s6 s7 wx => ∃ i : Nat, s6 = .string (bs (gapA i)) ∧ s7 = .int .i64 i ∧ i + gf = n ∧ wx = W1)
  case atStart => exact ⟨0, rfl, rfl, by omega, rfl⟩
  case round =>
    obtain ⟨i, rfl, rfl, hig, rfl⟩ := hrel
    by_cases hlt : i < n
    · have hlz : (i : Int) < n := by omega
      obtain ⟨g', rfl⟩ : ∃ g', gk = g' + 1 := ⟨gk - 1, by omega⟩
      have hz1 := hsz i (by omega)
      have hz2 := hsz (i + 1) (by omega)
      by_cases hi : i % 2 = 1
      · have hm : (i : Int).tmod 2 = 1 := by rw [Int.tmod_eq_emod_of_nonneg (by omega)]; omega
        have hs := unhide hodd i hi
        go_wp2
        go_roundg g'
        case measure => omega
        case rel => exact ⟨i + 1, by first | rfl | rw [← hs], by go_num, by omega, by trivial⟩
      · have hm : (i : Int).tmod 2 = 0 := by rw [Int.tmod_eq_emod_of_nonneg (by omega)]; omega
        have hs := unhide heven i hi
        go_wp2
        go_roundg g'
        case measure => omega
        case rel => exact ⟨i + 1, by first | rfl | rw [← hs], by go_num, by omega, by trivial⟩
    · have hlz : ¬ (i : Int) < n := by omega
      obtain rfl : i = n := by omega
      have hz1 := hsz i (by omega)
      clear hodd heven hsz
      cases a1 with
      | true =>
        have hs := unhide hE ⟨#[59]⟩ rfl
        clear hE
        go_wp2_with fail
        refine (unhide HT _).mono ?_
        rintro e W4 ⟨a, m, c, v, rfl, ⟨t1, c1, t2, k3, t3, c3, hs4, hC4⟩, hb4⟩
        have hbx := below_alloc W4 (.cells #[.int .i64 1, .int .i64 0, .slice a m c] 26 (0, 0))
        have hB := (unhide hb1).trans ((hb4.trans (hbx.mono hb4.size)).mono (unhide hb1).size)
        obtain ⟨q0, q1, q2⟩ := (nblk_new W4 1 0 a m c).box
        obtain ⟨e1, e2, e3, h3⟩ := hs4.below hbx
        obtain rfl : m = 2 := e1
        obtain ⟨g1, o1, rfl, ht1, x0, x1, ⟨a2, n2, c2, x2, _⟩, y0, y1, ⟨a3, n3, c3', y2, f4, f5, f6, h5⟩, _⟩ := h3 (by decide)
        obtain rfl : n3 = 1 := f4
        obtain ⟨g2, o2, rfl, ht2, u0, u1, ⟨a4, n4, c4, u2, f7, f8, _⟩, _⟩ := h5 (by decide)
        obtain rfl : n4 = 2 := by rw [f7, hC4]
        have hcap1 := e2.1
        have hcap2 := f5.1
        have hfin := hide hB
        clear hs4 hb4 hbx hB h3 h5 ht1 ht2 hs HT hb1 f7
        go_wp2
        go_ret
        exact ⟨rfl, unhide hfin⟩
      | false =>
        have hs := unhide hE ⟨#[]⟩ rfl
        clear hE
        go_wp2_with fail
        refine (unhide HT _).mono ?_
        rintro e W4 ⟨a, m, c, v, rfl, ⟨t1, c1, t2, k3, t3, c3, hs4, hC4⟩, hb4⟩
        have hbx := below_alloc W4 (.cells #[.int .i64 1, .int .i64 0, .slice a m c] 26 (0, 0))
        have hB := (unhide hb1).trans ((hb4.trans (hbx.mono hb4.size)).mono (unhide hb1).size)
        obtain ⟨q0, q1, q2⟩ := (nblk_new W4 1 0 a m c).box
        obtain ⟨e1, e2, e3, h3⟩ := hs4.below hbx
        obtain rfl : m = 2 := e1
        obtain ⟨g1, o1, rfl, ht1, x0, x1, ⟨a2, n2, c2, x2, _⟩, y0, y1, ⟨a3, n3, c3', y2, f4, f5, f6, h5⟩, _⟩ := h3 (by decide)
        obtain rfl : n3 = 1 := f4
        obtain ⟨g2, o2, rfl, ht2, u0, u1, ⟨a4, n4, c4, u2, f7, f8, _⟩, _⟩ := h5 (by decide)
        obtain rfl : n4 = 2 := by rw [f7, hC4]
        have hcap1 := e2.1
        have hcap2 := f5.1
        have hfin := hide hB
        clear hs4 hb4 hbx hB h3 h5 ht1 ht2 hs HT hb1 f7
        go_wp2
        go_ret
        exact ⟨rfl, unhide hfin⟩
end Go.Proofs.Ytdjjbdmnjegfjaa
