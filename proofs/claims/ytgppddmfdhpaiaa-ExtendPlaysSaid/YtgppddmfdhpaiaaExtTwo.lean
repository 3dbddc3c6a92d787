/-
  ExtendTwo: two sources' numbers.
-/
import Derived.Test.YtgppddmfdhpaiaaExtJumps
import Derived.Test.YtgppddmfdhpaiaaArgs
namespace Go.Proofs.Ytgppddmfdhpaiaa.ext
open Go.RowKit mem ser
set_option linter.unusedVariables false

/-- the state after the first n of the numbers Z -/
def runs (Z : Nat → Int) : Nat → Q
  | 0 => zero
  | n + 1 => put (runs Z n) (Z n)
theorem runs_upto (Z : Nat → Int) (n : Nat) (hn : n ≤ 1000) (h : ∀ i, i < n → 0 ≤ Z i ∧ Z i ≤ 65535) : (runs Z n).upto n := by
  induction n with
  | zero => exact zero_upto
  | succ n ih => exact put_upto _ (ih (by omega) (fun i hi => h i (by omega))) (by omega) (h n (by omega)).1 (h n (by omega)).2

/-- the numbers 0, 1, 2, .. -/
def cnt (n : Nat) : Q := if n = 0 then zero else ⟨1048576 + (n : Int) - 1, 0, 0, 0⟩
theorem cnt_put (n : Nat) (hn : n < 60000) : put (cnt n) n = cnt (n + 1) := by
  unfold cnt
  by_cases h : n = 0
  · subst h; rfl
  · rw [if_neg h, if_neg (by omega)]
    have h0 : sd 65536 (n : Int) ((1048576 + (n : Int) - 1) % 65536) = 1 := by unfold sd; split <;> omega
    have h1 : ¬ (1048576 + (n : Int) - 1 = 0) := by omega
    have hv : nearv ⟨1048576 + (n : Int) - 1, 0, 0, 0⟩ n = 1048576 + (n : Int) := by simp only [nearv, h0]; omega
    have h2 : nearB ⟨1048576 + (n : Int) - 1, 0, 0, 0⟩ (1048576 + (n : Int)) = true := by
      show decide (1048576 + (n : Int) - 1 - 3000 ≤ 1048576 + (n : Int) ∧ 1048576 + (n : Int) ≤ 1048576 + (n : Int) - 1 + 3000) = true
      exact decide_eq_true (by omega)
    have h3 : max (1048576 + (n : Int) - 1) (1048576 + (n : Int)) = 1048576 + (n : Int) := by omega
    simp only [put, h1, hv, h2, if_false, if_true, believed, h3]
    congr 1
    omega
theorem cnt_ok (n : Nat) (hn : n ≤ 1000) : (cnt n).ok := by
  unfold cnt
  split
  · exact zero_ok
  · exact ok_mk (by omega) (by omega) (by omega) (by omega) (by omega) (by omega) (by omega) (by omega)
theorem cnt_m (n : Nat) : (cnt (n + 1)).m = 1048576 + (n : Int) := by
  unfold cnt
  rw [if_neg (by omega)]
  simp only
  omega
theorem runs_m (Z : Nat → Int) (n : Nat) (hn : n ≤ 1000) (h : ∀ i, i < n → 0 ≤ Z i ∧ Z i ≤ 65535) : n = 0 ∨ 1048576 ≤ (runs Z n).m := by
  cases n with
  | zero => exact .inl rfl
  | succ n =>
    right
    have h0 := runs_upto Z n (by omega) (fun i hi => h i (by omega))
    have h1 := h0.m0
    have hz := h n (by omega)
    simp only [runs]
    unfold put
    split
    · simp only [believed]; omega
    · split
      · simp only [believed]; omega
      · split
        · show 1048576 ≤ (runs Z n).m; omega
        · simp only [jumped, believed, followed]; omega


abbrev WZ (w : World) : World := w.alloc (.cells #[.int .i64 0, .int .i64 0, .int .u16 0, .int .i64 0] 26)

/-- what the loop holds: three sources' numbers -/
structure Three (w wr : World) (z : Nat → Int) (k : Nat) (p : Nat) : Prop where
  a : Sq wr p (runs z k)
  b : Sq wr (p + 1) (runs z k)
  c : Sq wr (p + 2) (cnt k)
  n : New w wr
  le : w.heap.size ≤ p

theorem three_new {w w1 : World} (h : New w w1) (z : Nat → Int) : Three w (WZ (WZ (WZ w1))) z 0 w1.heap.size := by
  have h1 := sq_new w1
  have h2 := sq_new (WZ w1)
  have h3 := sq_new (WZ (WZ w1))
  rw [World.size_alloc] at h2 h3
  rw [World.size_alloc] at h3
  exact ⟨(h1.alloc _).alloc _, h2.alloc _, h3, ((h.alloc _).alloc _).alloc _, h.size⟩

set_option maxHeartbeats 1000000 in
theorem two_law (a : Option Addr) (n c : Nat) (z : Nat → Int) (w : World) (hz : args.IntRow .u16 w a n c z) :
    Calls Try.prog 7 #[.slice a n c] w fun e w' => e = .returned (.bool true) ∧ Below w.heap.size w w' := by
  obtain ⟨hn, hwf, hcell⟩ := hz
  unfold maxLen at hn
  have hbd : ∀ i, i < n → 0 ≤ z i ∧ z i ≤ 65535 := fun i hi => bounds_u16 (hwf i hi)
  have HB := Lib.hid hbd
  have HC := Lib.hid hcell
  clear hwf hcell hbd
  go_enter Try.func7, Try.ntmps7
  go_wp2_with fail
  refine (awake w).mono ?_
  rintro e w1 ⟨rfl, h1⟩
  go_wp2_with fail
  have ht := three_new h1 z
  unfold WZ at ht
  have HT := Lib.hid ht
  clear ht
  generalize ((w1.alloc (.cells #[.int .i64 0, .int .i64 0, .int .u16 0, .int .i64 0] 26)).alloc (.cells #[.int .i64 0, .int .i64 0, .int .u16 0, .int .i64 0] 26)).alloc (.cells #[.int .i64 0, .int .i64 0, .int .u16 0, .int .i64 0] 26) = w2 at *
  generalize w1.heap.size = p at *
  clear h1
  go_loopw [6] (fun i wr => ∃ k : Nat, k ≤ n ∧ k ≤ 100 ∧ i = .int .i64 k ∧ Three w wr z k p) (fun i _ => n - (intOf i).toNat)
  case atStart => exact ⟨0, Nat.zero_le _, by omega, rfl, HT.out⟩
  case round =>
    obtain ⟨k, hk, hk100, rfl, h3⟩ := hrel
    clear HT
    by_cases hgo : k < n ∧ k < 100
    · obtain ⟨hlt, hlt2⟩ := hgo
      obtain ⟨b, off, rfl, hb, hcell⟩ := HC.out.resolve_left (by omega)
      have hck := hcell k hlt
      have hzb := HB.out k hlt
      obtain ⟨z0, z1⟩ := hzb
      have hup := Lib.hid ((runs_upto z k (by omega) (fun i hi => HB.out i (by omega))).ok (by omega))
      have hcp := Lib.hid (cnt_put k (by omega))
      have hco := Lib.hid (cnt_ok k (by omega))
      have hcm := Lib.hid (cnt_m k)
      have HZ : Hid (put (runs z k) (z k) = runs z (k + 1)) := Lib.hid rfl
      obtain ⟨ha, hbb, hcc, hnw, hle⟩ := h3
      have hpl := ha.lt
      have hck1 : wr.cell? ⟨b, off + k, none⟩ = some (.int .u16 (z k)) := (hnw.cell hb (fun h => h)).trans hck
      clear hcell HC HB hck
      have HP := Lib.hid (put_any p (runs z k) (z k) wr ha hup.out z0 z1)
      go_wp2_with fail
      refine HP.out.mono ?_
      rintro e w3 ⟨rfl, h31, h32⟩
      have hbb1 := hbb.turns h32 (by omega)
      have hck3 : w3.cell? ⟨b, off + k, none⟩ = some (.int .u16 (z k)) := (h32.cell (a := ⟨b, off + k, none⟩) (by show b < _; omega) (by show ¬ b = p; omega)).trans hck1
      have hcc1 := hcc.turns h32 (by omega)
      have n3 : New w w3 := hnw.trans (h32.mono (fun j _ h => .inr (by omega)))
      have HP2 := Lib.hid (put_any (p + 1) (runs z k) (z k) w3 hbb1 hup.out z0 z1)
      clear hck1 hnw HP ha hbb hbb1 hcc
      go_wp2_with fail
      refine HP2.out.mono ?_
      rintro e w4 ⟨rfl, h41, h42⟩
      have hcc2 := hcc1.turns h42 (by omega)
      have ha4 := h31.turns h42 (by omega)
      have n4 : New w w4 := n3.trans (h42.mono (fun j _ h => .inr (by omega)))
      have HP3 := Lib.hid (put_any (p + 2) (cnt k) (k : Int) w4 hcc2 hco.out (by omega) (by omega))
      clear hck3 n3 HP2 hcc1 h31 h32
      have e1 : IntKind.u16.wrap (k : Int) = (k : Int) := by rw [w16]; omega
      go_wp2_with fail
      refine HP3.out.mono ?_
      rintro e w5 ⟨rfl, h51, h52⟩
      have n5 : New w w5 := n4.trans (h52.mono (fun j _ h => .inr (by omega)))
      have ha5 := ha4.turns h52 (by omega)
      have hb5 := h41.turns h52 (by omega)
      rw [hcp.out] at h51
      rw [HZ.out] at ha5 hb5
      have ma := most p _ w5 ha5
      have mb := most (p + 1) _ w5 hb5
      have mc := most (p + 2) _ w5 h51
      have ja := jumps p _ w5 ha5
      have jb := jumps (p + 1) _ w5 hb5
      rw [hcm.out] at mc
      have M := Lib.hid (And.intro ma (And.intro mb (And.intro mc (And.intro ja jb))))
      have H5 : Hid (Three w w5 z (k + 1) p) := Lib.hid ⟨ha5, hb5, h51, n5, hle⟩
      clear ma mb mc ja jb ha5 hb5 h51 h41 h42 h52 ha4 hcc2 n4 n5 HP3 hcp hco hcm HZ hup e1
      generalize runs z (k + 1) = q at *
      generalize putAt (runs z k) (z k) = va at *
      generalize putOk (runs z k) (z k) = vb at *
      go_wp2_with (first
        | (go_at_call 16; (first | ((with_reducible refine (M.out.1).mono ?_); rintro e w' ⟨rfl, rfl⟩) | ((with_reducible refine (M.out.2.1).mono ?_); rintro e w' ⟨rfl, rfl⟩) | ((with_reducible refine (M.out.2.2.1).mono ?_); rintro e w' ⟨rfl, rfl⟩)))
        | (go_at_call 17; (first | ((with_reducible refine (M.out.2.2.2.1).mono ?_); rintro e w' ⟨rfl, rfl⟩) | ((with_reducible refine (M.out.2.2.2.2).mono ?_); rintro e w' ⟨rfl, rfl⟩))))
      go_roundw
      case rel => exact ⟨k + 1, by omega, by omega, by go_num, H5.out⟩
      case measure => simp [intOf]; omega
    · have hm := runs_m z k (by omega) (fun i hi => HB.out i (by omega))
      have HM := Lib.hid (most p _ wr h3.a)
      have hnw := h3.n
      have h0 : n = 0 ∨ 1048576 ≤ (runs z k).m := by
        rcases hm with h | h
        · left; omega
        · exact .inr h
      generalize (runs z k).m = m at *
      clear h3 hm HB HC
      have fin : ∀ e, e = Ending.returned (Value.bool true) → (e = .returned (.bool true) ∧ Below w.heap.size w wr) := fun e h => ⟨h, hnw.below (Nat.le_refl _) (fun _ _ h => h.elim)⟩
      have HF := Lib.hid fin
      clear fin
      by_cases hlt : k < n
      · have hlt2 : ¬ k < 100 := by omega
        have h1 : 1048576 ≤ m := by omega
        clear h0
        go_wp2_with fail
        refine HM.out.mono ?_
        rintro e w' ⟨rfl, rfl⟩
        go_wp2
        go_ret
        exact HF.out _ rfl
      · by_cases h1 : 1048576 ≤ m
        · clear h0
          go_wp2_with fail
          refine HM.out.mono ?_
          rintro e w' ⟨rfl, rfl⟩
          go_wp2
          go_ret
          exact HF.out _ rfl
        · have h2 : n = 0 := by omega
          clear h0
          subst h2
          go_wp2_with fail
          refine HM.out.mono ?_
          rintro e w' ⟨rfl, rfl⟩
          go_wp2
          go_ret
          exact HF.out _ rfl
end Go.Proofs.Ytgppddmfdhpaiaa.ext
