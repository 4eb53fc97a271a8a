/-
  ScanStrings.
-/
import Derived.Test.YtmhkmmcicfpakabScanConv
import Derived.Test.YtmhkmmcicfpakabScanBegun
namespace Go.Proofs.Ytmhkmmcicfpakab
open Go.RowKit
set_option linter.unusedSimpArgs false
set_option linter.unusedVariables false
/-- A word, a quote, so many bytes: what begins. -/
theorem strings_head (n : Nat) (x : UInt8) (q : List UInt8) (h1 : 32 ≤ x.toNat) (h2 : x.toNat ≤ 126) (h3 : x.toNat ≠ 34) (hq : q = [] ∨ q = [10, 121, 34] ∨ q = [34]) :
    ∀ s, s = bs ([120, 34] ++ List.replicate n x ++ q) → s.size = n + 2 + q.length ∧ (∀ i, i < s.size → (32 ≤ byteAt s i ∧ byteAt s i < 127) ∨ byteAt s i = 10) ∧ byteAt s 1 = 34 ∧ (∀ i, 2 ≤ i → i < n + 2 → byteAt s i ≠ 34 ∧ byteAt s i ≠ 10) ∧ (∀ f, scanL s (f + 1) sc0 = scanL s f ⟨1, 1, [⟨1, bs [120], 0, 1, false⟩], []⟩) ∧ byteAt s (n + 2) = (q.getD 0 0).toNat := by
  intro s hs
  have hb : ∀ i, byteAt s i = (if i < 2 then ([120, 34] : List UInt8).getD i 0 else if i < 2 + n then x else q.getD (i - 2 - n) 0).toNat := fun i => by rw [hs, byteAt_bs, getD3]; rfl
  have hz : s.size = n + 2 + q.length := by rw [hs, bs_size]; simp; omega
  have b0 : byteAt s 0 = 120 := by rw [hb]; rfl
  have b1 : byteAt s 1 = 34 := by rw [hb]; rfl
  have bm : ∀ i, 2 ≤ i → i < n + 2 → byteAt s i = x.toNat := fun i k1 k2 => by rw [hb, if_neg (by omega), if_pos (by omega)]
  have be : ∀ i, n + 2 ≤ i → byteAt s i = (q.getD (i - 2 - n) 0).toNat := fun i k1 => by rw [hb, if_neg (by omega), if_neg (by omega)]
  refine ⟨hz, fun i hi => ?_, b1, fun i k1 k2 => by rw [bm i k1 k2]; omega, fun f => ?_, ?_⟩
  · by_cases k0 : i = 0
    · subst k0; omega
    by_cases k1 : i = 1
    · subst k1; omega
    by_cases k2 : i < n + 2
    · rw [bm i (by omega) k2]; omega
    · rw [be i (by omega)]
      rcases hq with rfl | rfl | rfl
      · simp at hz; omega
      · simp at hz
        obtain k | k | k : i - 2 - n = 0 ∨ i - 2 - n = 1 ∨ i - 2 - n = 2 := by omega
        all_goals
          rw [k]
          decide
      · simp at hz
        rw [show i - 2 - n = 0 by omega]; decide
  · have ht : toN s true 0 = 1 := toN_eq 1 0 1 rfl (by omega) (fun i k1 k2 => by rw [show i = 0 by omega, b0]; rfl) (.inr (by rw [b1]; rfl))
    have hx : s.extract 0 1 = bs [120] := by
      rw [hs, extract_bs]
      rfl
    rw [step_name (x := sc0) (by show 0 < _; omega) (by show letB (byteAt s 0) = true; rw [b0]; rfl) ht (by show 1 - 0 ≤ 24; omega)]
    show scanL s f (Sc.add s sc0 (if isKey (s.extract 0 1) = true then 5 else 1) 1) = _
    rw [hx, show isKey (bs [120]) = false from by decide]
    show scanL s f ⟨1, 1, [] ++ [⟨1, s.extract 0 1, 0, 1, false⟩], []⟩ = _
    rw [hx]
    rfl
  · rw [be _ (Nat.le_refl _), show n + 2 - 2 - n = 0 by omega]
theorem strings_off (n : Nat) (x : UInt8) (q : List UInt8) (h1 : 32 ≤ x.toNat) (h2 : x.toNat ≤ 126) (h3 : x.toNat ≠ 34) (hn : n ≤ 30) (hq : q = [] ∨ q = [10, 121, 34]) :
    (scanS (bs ([120, 34] ++ List.replicate n x ++ q))).2.2 = 1 := by
  obtain ⟨s, hs⟩ : ∃ s, bs ([120, 34] ++ List.replicate n x ++ q) = s := ⟨_, rfl⟩
  obtain ⟨hz, hp, b1, bm, hst, be⟩ := strings_head n x q h1 h2 h3 (by rcases hq with h | h <;> simp [h]) s hs.symm
  have hql : q.length ≤ 3 := by rcases hq with rfl | rfl <;> simp
  rw [hs, scanS_plain s hp (by omega)]
  obtain ⟨m, hm⟩ : ∃ m, s.size = m + 1 + 1 := ⟨s.size - 2, by omega⟩
  have hqn : qN s 2 = n + 2 := qN_eq n 2 (n + 2) (by omega) (by omega) bm (by
    rcases hq with rfl | rfl
    · left; simp at hz; omega
    · right; right; rw [be]; rfl)
  have hsb : strB s 1 = false := by
    rw [strB, hqn]
    rcases hq with rfl | rfl
    · rw [decide_eq_false (by simp at hz; omega), Bool.false_and]
    · rw [be]
      rw [show decide ((([10, 121, 34] : List UInt8).getD 0 0).toNat = 34) = false from rfl, Bool.and_false]
  have e0 : scanL s s.size sc0 = (false, ⟨1, 1, [⟨1, bs [120], 0, 1, false⟩], []⟩) := by
    rw [hm, hst]
    exact stop_quo (x := ⟨1, 1, [⟨1, bs [120], 0, 1, false⟩], []⟩) (by show 1 < _; omega) b1 hsb
  rw [scanR_stop e0, if_pos (.inl (by decide))]
  rfl
theorem strings_on (n : Nat) (x : UInt8) (h1 : 32 ≤ x.toNat) (h2 : x.toNat ≤ 126) (h3 : x.toNat ≠ 34) (hn : n ≤ 30) :
    ∃ t, t.k = 3 ∧ t.s.size = n + 2 ∧ scanS (bs ([120, 34] ++ List.replicate n x ++ [34])) = ([⟨1, bs [120], 0, 1, false⟩, t, ⟨6, ⟨#[59]⟩, (n + 3 : Nat), 1, true⟩, ⟨7, ⟨#[]⟩, (n + 3 : Nat), 1, false⟩], [], -1) := by
  obtain ⟨s, hs⟩ : ∃ s, bs ([120, 34] ++ List.replicate n x ++ [34]) = s := ⟨_, rfl⟩
  obtain ⟨hz, hp, b1, bm, hst, be⟩ := strings_head n x [34] h1 h2 h3 (by simp) s hs.symm
  rw [List.length_singleton] at hz
  rw [hs, scanS_plain s hp (by omega)]
  obtain ⟨m, hm⟩ : ∃ m, s.size = m + 1 + 1 := ⟨s.size - 2, by omega⟩
  have hqn : qN s 2 = n + 2 := qN_eq n 2 (n + 2) (by omega) (by omega) bm (.inr (.inl (by rw [be]; rfl)))
  have hsb : strB s 1 = true := by
    rw [strB, hqn, be, decide_eq_true (by omega)]
    rfl
  have e0 : scanL s s.size sc0 = (true, ⟨n + 3, 1, [⟨1, bs [120], 0, 1, false⟩, ⟨3, s.extract 1 (n + 3), 1, 1, false⟩], []⟩) := by
    rw [hm, hst, step_quo (x := ⟨1, 1, [⟨1, bs [120], 0, 1, false⟩], []⟩) (by show 1 < _; omega) b1 hsb]
    show scanL s m ⟨qN s 2 + 1, 1, [⟨1, bs [120], 0, 1, false⟩] ++ [⟨3, s.extract 1 (qN s 2 + 1), 1, 1, false⟩], []⟩ = _
    rw [hqn, scanL_end (by show s.size ≤ n + 2 + 1; omega)]
    rfl
  refine ⟨⟨3, s.extract 1 (n + 3), 1, 1, false⟩, rfl, by show (s.extract 1 (n + 3)).size = _; rw [ByteArray.size_extract]; omega, ?_⟩
  rw [scanR_ok e0 (by decide)]
  have hen : endB ⟨3, s.extract 1 (n + 3), 1, 1, false⟩ = true := rfl
  rw [show (⟨n + 3, 1, [⟨1, bs [120], 0, 1, false⟩, ⟨3, s.extract 1 (n + 3), 1, 1, false⟩], []⟩ : Sc) = ⟨n + 3, 1, [⟨1, bs [120], 0, 1, false⟩] ++ [⟨3, s.extract 1 (n + 3), 1, 1, false⟩], []⟩ from rfl, semi_on _ _ _ _ _ hen, show s.size = n + 3 by omega]
  rfl
set_option maxHeartbeats 2000000 in
set_option maxRecDepth 100000 in
theorem scanStrings_walk (a0 a1 : Int) (a2 : Bool) (w0 : -9223372036854775808 ≤ a0 ∧ a0 ≤ 9223372036854775807) (w1 : 0 ≤ a1 ∧ a1 ≤ 255) (w : World) :
    Calls Try.prog 5 #[.int .i64 a0, .int .u8 a1, .bool a2] w fun e w' => e = .returned (.bool true) ∧ Below w.heap.size w w' := by
  obtain ⟨hn1, hn2⟩ := w0
  have HB := hide (scanbegun_any w)
  go_enter Try.func5, Try.ntmps5
  go_wp2_with fail
  refine (unhide HB).mono ?_
  rintro e W0 ⟨rfl, hb0⟩
  clear HB
  by_cases h1 : a0 < 0
  · go_wp2
    go_ret
    exact ⟨rfl, hb0⟩
  by_cases h2 : 30 < a0
  · go_wp2
    go_ret
    exact ⟨rfl, hb0⟩
  by_cases h3 : a1 < 32
  · go_wp2
    go_ret
    exact ⟨rfl, hb0⟩
  by_cases h4 : 126 < a1
  · go_wp2
    go_ret
    exact ⟨rfl, hb0⟩
  by_cases h5 : a1 = 34
  · subst h5
    go_wp2
    go_ret
    exact ⟨rfl, hb0⟩
  obtain ⟨n, rfl⟩ := Int.eq_ofNat_of_zero_le (show 0 ≤ a0 by omega)
  have h5' : (a1 == 34) = false := beq_eq_false_iff_ne.2 h5
  obtain ⟨x, hx⟩ : ∃ x, UInt8.ofNat a1.toNat = x := ⟨_, rfl⟩
  have hxn : x.toNat = a1.toNat := by rw [← hx, UInt8.toNat_ofNat']; omega
  go_wp2
  go_loopw [8, 9] (fun s8 s9 wr => ∃ k : Nat, k ≤ n ∧ s9 = .int .i64 k ∧ s8 = .string (bs ([120, 34] ++ List.replicate k x)) ∧ Below w.heap.size w wr) (fun _ s9 _ => n - (intOf s9).toNat)
  case atStart => exact ⟨0, by omega, rfl, rfl, hb0⟩
  case round =>
    obtain ⟨k, hk, rfl, rfl, hbw⟩ := hrel
    by_cases hkn : k < n
    · have hsz : (bs ([120, 34] ++ List.replicate k x)).size ≤ 100 := by rw [bs_size]; simp; omega
      have hcv := conv1 wr a1 (by omega) (by omega)
      have hb2 := below_alloc wr (.cells #[.int .u8 a1] 5)
      rw [hx] at hcv
      have hcat : bs ([120, 34] ++ List.replicate k x) ++ bs [x] = bs ([120, 34] ++ List.replicate (k + 1) x) := by
        rw [bs_app, List.append_assoc, ← List.replicate_succ']
      have hsz1 : (bs [x]).size = 1 := rfl
      generalize bs [x] = u1 at *
      generalize bs ([120, 34] ++ List.replicate k x) = u at *
      replace hcat := hide hcat
      go_wp2
      go_roundw
      case rel => exact ⟨k + 1, by omega, by go_num, by rw [← unhide hcat], below3 hbw hb2⟩
      case measure => simp [intOf]; omega
    · obtain rfl : k = n := by omega
      have q1 := strings_off k x [] (by omega) (by omega) (by omega) (by omega) (by simp)
      have q2 := strings_off k x [10, 121, 34] (by omega) (by omega) (by omega) (by omega) (by simp)
      obtain ⟨t, q3, q4, q5⟩ := strings_on k x (by omega) (by omega) (by omega) (by omega)
      rw [List.append_nil] at q1
      have hsz : (bs ([120, 34] ++ List.replicate k x)).size ≤ 100 := by rw [bs_size]; simp; omega
      have c2 : bs ([120, 34] ++ List.replicate k x) ++ (⟨#[10, 121, 34]⟩ : ByteArray) = bs ([120, 34] ++ List.replicate k x ++ [10, 121, 34]) := bs_app _ _
      have c3 : bs ([120, 34] ++ List.replicate k x) ++ (⟨#[34]⟩ : ByteArray) = bs ([120, 34] ++ List.replicate k x ++ [34]) := bs_app _ _
      rw [← c2] at q2
      rw [← c3] at q5
      generalize bs ([120, 34] ++ List.replicate k x) = u at *
      have H1 := fun w => pScan_any u w (by omega)
      have H2 := fun w => pScan_any (u ++ ⟨#[10, 121, 34]⟩) w (by rw [ByteArray.size_append]; show u.size + 3 ≤ _; omega)
      have H3 := fun w => pScan_any (u ++ ⟨#[34]⟩) w (by rw [ByteArray.size_append]; show u.size + 1 ≤ _; omega)
      rw [show scanR u (bigF u (flt u)) = scanS u from rfl] at H1
      rw [show scanR (u ++ ⟨#[10, 121, 34]⟩) (bigF (u ++ ⟨#[10, 121, 34]⟩) (flt (u ++ ⟨#[10, 121, 34]⟩))) = scanS (u ++ ⟨#[10, 121, 34]⟩) from rfl] at H2
      rw [show scanR (u ++ ⟨#[34]⟩) (bigF (u ++ ⟨#[34]⟩) (flt (u ++ ⟨#[34]⟩))) = scanS (u ++ ⟨#[34]⟩) from rfl, q5] at H3
      rw [q1] at H1
      rw [q2] at H2
      generalize (scanS u).1 = T1 at *
      generalize (scanS u).2.1 = C1 at *
      generalize (scanS (u ++ ⟨#[10, 121, 34]⟩)).1 = T2 at *
      generalize (scanS (u ++ ⟨#[10, 121, 34]⟩)).2.1 = C2 at *
      replace H1 := hide H1
      replace H2 := hide H2
      replace H3 := hide H3
      clear q1 q2 q5 c2 c3
      cases a2 with
      | false =>
        go_wp2_with fail
        refine (unhide H1 _).mono ?_
        rintro e W2 ⟨vl, vc, rfl, _, _, hw2⟩
        go_wp2_with fail
        refine (unhide H2 _).mono ?_
        rintro e W3 ⟨ul, uc, rfl, _, _, hw3⟩
        go_wp2
        go_ret
        exact ⟨rfl, below3 (below3 hbw hw2) hw3⟩
      | true =>
        obtain ⟨tk, ts, tp, tl, tq⟩ := t
        dsimp only at q3 q4
        subst q3
        go_wp2_with fail
        refine (unhide H3 _).mono ?_
        rintro e W2 ⟨vl, vc, rfl, ht, hc, hw2⟩
        replace ht := own_toks ht
        replace hc := own_coms hc
        obtain ⟨a, ca, rfl, ha1, ha2, ha3⟩ := ht
        obtain ⟨b, cb, rfl, hb1, hb2, hb3⟩ := hc
        obtain ⟨ga, rfl, hga, hca⟩ := ha3 (by simp)
        obtain ⟨p0, p1, p2, p3, p4⟩ := hca 1 _ rfl
        simp only [Nat.reduceMul, Nat.reduceAdd, List.length_cons, List.length_nil] at *
        clear hca ha3 hb3
        go_wp2
        go_ret
        exact ⟨rfl, below3 hbw hw2⟩
theorem scanStrings_shell (a0 : Int) (a1 : Int) (a2 : Bool) (w0 : (Lit.int .i64 a0).wf = true) (w1 : (Lit.int .u8 a1).wf = true) (w : World) :
    Calls Try.prog 5 #[.int .i64 a0, .int .u8 a1, .bool a2] w fun e w' => e = .returned (.bool true) ∧ Below w.heap.size w w' :=
  scanStrings_walk a0 a1 a2 (bounds_i64 w0) (bounds_u8 w1) w
end Go.Proofs.Ytmhkmmcicfpakab
