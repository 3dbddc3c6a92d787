/-
  ExtendKeeps: the distances are kept.
-/
import Derived.Test.YtgppddmfdhpaiaaExtJumps
import Derived.Test.YtgppddmfdhpaiaaArgs
namespace Go.Proofs.Ytgppddmfdhpaiaa.ext
open Go.RowKit mem ser
set_option linter.unusedVariables false

/-- the greatest distance after n steps -/
def mst (z : Nat → Int) : Nat → Int
  | 0 => 0
  | n + 1 => max (mst z n) ((z n).tmod 3001 + mst z n)
theorem tm_bd (x : Int) : -3000 ≤ x.tmod 3001 ∧ x.tmod 3001 ≤ 3000 := by
  have h1 : -3001 < x.tmod 3001 := Int.lt_tmod_of_pos x (by omega)
  have h2 : x.tmod 3001 < 3001 := Int.tmod_lt_of_pos x (by omega)
  omega
theorem mst_bd (z : Nat → Int) (n : Nat) : 0 ≤ mst z n ∧ mst z n ≤ 3000 * n := by
  induction n with
  | zero => simp [mst]
  | succ n ih => have := tm_bd (z n); simp only [mst]; omega

theorem kp_put (a M d n : Int) (ha : 0 ≤ a) (ha' : a ≤ 65535) (hM : 0 ≤ M) (hd : -3000 ≤ d) (hd' : d ≤ 3000) (hn : n = (a + (d + M)) % 65536) :
    put ⟨1048576 + a + M, 0, 0, 0⟩ n = ⟨1048576 + a + max M (d + M), 0, 0, 0⟩ ∧ putAt ⟨1048576 + a + M, 0, 0, 0⟩ n = 1048576 + a + (d + M) ∧ putOk ⟨1048576 + a + M, 0, 0, 0⟩ n = true := by
  have h0 : sd 65536 n ((1048576 + a + M) % 65536) = d := by subst hn; unfold sd; split <;> omega
  have h1 : ¬ (1048576 + a + M = 0) := by omega
  have hv : nearv ⟨1048576 + a + M, 0, 0, 0⟩ n = 1048576 + a + (d + M) := by simp only [nearv, h0]; omega
  have h2 : nearB ⟨1048576 + a + M, 0, 0, 0⟩ (1048576 + a + (d + M)) = true := by
    show decide (1048576 + a + M - 3000 ≤ 1048576 + a + (d + M) ∧ 1048576 + a + (d + M) ≤ 1048576 + a + M + 3000) = true
    exact decide_eq_true (by omega)
  have h3 : max (1048576 + a + M) (1048576 + a + (d + M)) = 1048576 + a + max M (d + M) := by omega
  simp only [put, putAt, putOk, h1, hv, h2, if_false, if_true, believed, h3, and_self, and_true]

set_option maxHeartbeats 1000000 in
set_option maxRecDepth 100000 in
theorem keeps_law (f : Int) (a : Option Addr) (n c : Nat) (z : Nat → Int) (w : World) (hf : 0 ≤ f) (hf' : f ≤ 65535) (hz : args.IntRow .i64 w a n c z) :
    Calls Try.prog 4 #[.int .u16 f, .slice a n c] w fun e w' => e = .returned (.bool true) ∧ Below w.heap.size w w' := by
  obtain ⟨hn, hwf, hcell⟩ := hz
  unfold maxLen at hn
  have hbd : ∀ i, i < n → -9223372036854775808 ≤ z i ∧ z i ≤ 9223372036854775807 := fun i hi => bounds_i64 (hwf i hi)
  have HB := Lib.hid hbd
  have HC := Lib.hid hcell
  clear hwf hcell hbd
  have HJ := Lib.hid (jm1 f hf hf')
  go_enter Try.func4, Try.ntmps4
  go_wp2_with fail
  refine (awake w).mono ?_
  rintro e w1 ⟨rfl, h1⟩
  go_wp2_with fail
  have hq := sq_new w1
  have N1 : New w (w1.alloc (.cells #[.int .i64 0, .int .i64 0, .int .u16 0, .int .i64 0] 26)) := h1.alloc _
  have hle : w.heap.size ≤ w1.heap.size := h1.size
  generalize w1.alloc (.cells #[.int .i64 0, .int .i64 0, .int .u16 0, .int .i64 0] 26) = w2 at *
  generalize w1.heap.size = p at *
  refine (put_is _ zero f _ _ _ HJ.out _ hq zero_ok (by omega) (by omega)).mono ?_
  rintro e w3 ⟨rfl, h3⟩
  have N2 := Lib.hid (new_at N1 h3 hle)
  have hs3 : Sq w3 p ⟨1048576 + f + mst z 0, 0, 0, 0⟩ := by
    have := h3.1
    simpa [mst] using this
  have HS3 := Lib.hid hs3
  clear N1 hq h1 h3 hs3 HJ
  go_wp2_with fail
  go_loopw [9, 10] (fun m i wr => ∃ k : Nat, k ≤ n ∧ k ≤ 300 ∧ i = .int .i64 k ∧ m = .int .i64 (mst z k) ∧ Sq wr p ⟨1048576 + f + mst z k, 0, 0, 0⟩ ∧ New w wr) (fun _ i _ => n - (intOf i).toNat)
  case atStart => exact ⟨0, Nat.zero_le _, by omega, rfl, rfl, HS3.out, N2.out⟩
  case round =>
    obtain ⟨k, hk, hk300, rfl, rfl, hs, hnw⟩ := hrel
    clear HS3 N2
    have hmb := mst_bd z k
    obtain ⟨mb0, mb1⟩ := hmb
    by_cases hgo : k < n ∧ k < 300
    · obtain ⟨hlt, hlt2⟩ := hgo
      obtain ⟨b, off, rfl, hb, hcell⟩ := HC.out.resolve_left (by omega)
      have hck := hcell k hlt
      have hzb := HB.out k hlt
      obtain ⟨z0, z1⟩ := hzb
      have hpl := hs.lt
      have hck1 : wr.cell? ⟨b, off + k, none⟩ = some (.int .i64 (z k)) := (hnw.cell hb (fun h => h)).trans hck
      clear hcell HC HB hck
      have hM : Hid (mst z (k + 1) = max (mst z k) ((z k).tmod 3001 + mst z k)) := Lib.hid rfl
      have htb := tm_bd (z k)
      obtain ⟨t0, t1⟩ := htb
      generalize mst z k = M at *
      generalize hd : (z k).tmod 3001 = d at *
      obtain ⟨nn, hnn⟩ : ∃ nn, nn = (f + (d + M)) % 65536 := ⟨_, rfl⟩
      have e1 : IntKind.u16.wrap (f + (d + M)) = nn := by rw [w16]; omega
      have e0 : wrap64 d = d := by unfold wrap64; omega
      have HP := Lib.hid (kp_put f M d nn hf hf' mb0 t0 t1 hnn)
      have n0 : 0 ≤ nn := by omega
      have n1 : nn ≤ 65535 := by omega
      have hok : Hid ((⟨1048576 + f + M, 0, 0, 0⟩ : Q).ok) := Lib.hid (ok_mk (by omega) (by omega) (by omega) (by omega) (by omega) (by omega) (by omega) (by omega))
      have HC2 := Lib.hid (put_is p _ nn _ _ _ HP.out wr hs hok.out n0 n1)
      obtain ⟨va, hva⟩ : ∃ va, va = 1048576 + f + (d + M) := ⟨_, rfl⟩
      have e3 : va - (1048576 + f) = d + M := by omega
      have v0 : 0 ≤ va := by omega
      have v1 : va ≤ 10000000 := by omega
      rw [← hva] at HC2
      clear hs hnn hva HP
      go_wp2_with fail
      refine HC2.out.mono ?_
      rintro e w4 ⟨rfl, h4⟩
      have n4 : Hid (New w w4) := Lib.hid (new_at hnw h4 hle)
      have h41 := h4.1
      rw [← hM.out] at h41
      have H41 := Lib.hid h41
      clear h41 h4 hck1 hnw HC2
      go_wp2
      all_goals
        go_roundw
        case rel => exact ⟨k + 1, by omega, by omega, by go_num, by rw [hM.out]; go_num, H41.out, n4.out⟩
        case measure => simp [intOf]; omega
    · have HM := Lib.hid (most p _ wr hs)
      have HJ := Lib.hid (jumps p _ wr hs)
      generalize mst z k = M at *
      have e2 : 1048576 + f + M - (1048576 + f) = M := by omega
      clear hs HB HC
      by_cases hlt : k < n
      · have hlt2 : ¬ k < 300 := by omega
        go_wp2_with (first
          | (go_at_call 16; (with_reducible refine (HM.out).mono ?_); rintro e w' ⟨rfl, rfl⟩)
          | (go_at_call 17; (with_reducible refine (HJ.out).mono ?_); rintro e w' ⟨rfl, rfl⟩))
        go_ret
        exact ⟨rfl, hnw.below (Nat.le_refl _) (fun _ _ h => h.elim)⟩
      · go_wp2_with (first
          | (go_at_call 16; (with_reducible refine (HM.out).mono ?_); rintro e w' ⟨rfl, rfl⟩)
          | (go_at_call 17; (with_reducible refine (HJ.out).mono ?_); rintro e w' ⟨rfl, rfl⟩))
        go_ret
        exact ⟨rfl, hnw.below (Nat.le_refl _) (fun _ _ h => h.elim)⟩
end Go.Proofs.Ytgppddmfdhpaiaa.ext
