/-
  Vp8Cut: a beginning of a descriptor's bytes is none.
-/
import Derived.Test.YtjelilolimodfaaVpAwake
import Derived.Test.YtjelilolimodfaaDescArg
namespace Go.Proofs.Ytjelilolimodfaa.vp
open Go.RowKit mem rd wr oref sq
set_option linter.unusedVariables false

theorem tx_bd (d : D) : 1 ≤ (tx d).length ∧ (tx d).length ≤ 6 := by
  rw [tx_len]
  have h1 : (txPic d).length ≤ 2 := by unfold txPic; split; split <;> simp [be_length]; simp
  have h2 : (txLev d).length ≤ 1 := by unfold txLev; split <;> simp [be_length]
  have h3 : (txLk d).length ≤ 1 := by unfold txLk; split <;> simp [be_length]
  split <;> omega
theorem cut_parse (d : D) (hv : V d) (n : Nat) (hn : n < (tx d).length) (w : World) :
    Calls Try.prog 35 #[.string ((⟨(tx d).toArray⟩ : ByteArray).extract 0 n)] w fun en w' => en = .returned (.tuple #[.agg #[.bool false, .bool false, .int .i64 0, .int .i64 0, .bool false, .int .i64 0, .int .i64 0, .bool false, .int .i64 0], .string ⟨#[]⟩, .int .i64 1]) ∧ New w w' := by
  have hb := tx_bd d
  rw [extract_mk]
  simp only [List.drop_zero, Nat.sub_zero]
  have hc := parse_cut d hv n hn
  refine (parse ⟨((tx d).take n).toArray⟩ w (by rw [size_mk, List.length_take]; omega)).mono ?_
  rintro e w' ⟨rfl, hw⟩
  simp only
  unfold outD outL
  rw [hc]
  exact ⟨rfl, hw⟩

set_option maxHeartbeats 2000000 in
theorem cut_law (x0 x1 : Bool) (x2 x3 : Int) (x4 : Bool) (x5 x6 : Int) (x7 : Bool) (x8 : Int) (n : Int) (w : World) (hok : args.descOk w x0 x1 x2 x3 x4 x5 x6 x7 x8)
    (hn1 : -9223372036854775808 ≤ n) (hn2 : n ≤ 9223372036854775807) :
    Calls Try.prog 11 #[.agg #[.bool x0, .bool x1, .int .i64 x2, .int .i64 x3, .bool x4, .int .i64 x5, .int .i64 x6, .bool x7, .int .i64 x8], .int .i64 n] w fun e w' => e = .returned (.bool true) ∧ Below w.heap.size w w' := by
  have HA := Lib.hid awake
  have HC := Lib.hid (fun w => check ⟨x0, x1, x2, x3, x4, x5, x6, x7, x8⟩ w)
  simp only [cells] at HC
  go_enter Try.func11, Try.ntmps11
  go_wp2_with fail
  have hb1 := Blk.new w #[.bool x0, .bool x1, .int .i64 x2, .int .i64 x3, .bool x4, .int .i64 x5, .int .i64 x6, .bool x7, .int .i64 x8] DT
  have hn1 : New w (w.alloc (.cells #[.bool x0, .bool x1, .int .i64 x2, .int .i64 x3, .bool x4, .int .i64 x5, .int .i64 x6, .bool x7, .int .i64 x8] DT)) := (Turns.refl _ _).alloc _
  generalize w.alloc (.cells #[.bool x0, .bool x1, .int .i64 x2, .int .i64 x3, .bool x4, .int .i64 x5, .int .i64 x6, .bool x7, .int .i64 x8] DT) = w1 at *
  refine (HA.out _).mono ?_
  rintro e w2 ⟨rfl, hn2⟩
  have hb2 := hn2.blk hb1 (fun h => h)
  have hn2' : New w w2 := hn1.trans (hn2.mono (fun _ _ h => h.elim))
  clear hn1 hn2 hb1
  obtain ⟨c0, c1, c2, c3, c4, c5, c6, c7, c8⟩ := cells9 hb2
  have H2 := Lib.hid (And.intro hb2 hn2')
  clear hb2 hn2'
  go_wp2_with fail
  refine (HC.out _).mono ?_
  rintro e w3 ⟨rfl, hn3⟩
  have hb3 := hn3.blk H2.out.1 (fun h => h)
  have hn3' : New w w3 := H2.out.2.trans (hn3.mono (fun _ _ h => h.elim))
  clear hn3 H2 c0 c1 c2 c3 c4 c5 c6 c7 c8
  by_cases hz : chk ⟨x0, x1, x2, x3, x4, x5, x6, x7, x8⟩ = 0
  · have hv := chk_V hz
    rw [hz]
    clear hz
    obtain ⟨c0, c1, c2, c3, c4, c5, c6, c7, c8⟩ := cells9 hb3
    have H3 := Lib.hid (And.intro hb3 hn3')
    have HT := Lib.hid (fun w => text ⟨x0, x1, x2, x3, x4, x5, x6, x7, x8⟩ hv w)
    have HP := Lib.hid (fun n h w => cut_parse ⟨x0, x1, x2, x3, x4, x5, x6, x7, x8⟩ hv n h w)
    have hbd := tx_bd ⟨x0, x1, x2, x3, x4, x5, x6, x7, x8⟩
    simp only [cells] at HT
    obtain ⟨T, hT, hsz⟩ : ∃ T : ByteArray, T = ⟨(tx ⟨x0, x1, x2, x3, x4, x5, x6, x7, x8⟩).toArray⟩ ∧ T.size = (tx ⟨x0, x1, x2, x3, x4, x5, x6, x7, x8⟩).length := ⟨_, rfl, size_mk _⟩
    rw [← hT] at HT HP
    rw [← hsz] at hbd HP
    clear hT hsz hb3 hn3' hv
    have hm := mask.mask8 n
    obtain ⟨k, hk, hk1, hk2⟩ : ∃ k : Nat, (n % 256) % ((T.size : Int) + 1) = (k : Int) ∧ k ≤ T.size ∧ True := by
      have h1 := Int.emod_nonneg (n % 256) (show (T.size : Int) + 1 ≠ 0 by omega)
      have h2 := Int.emod_lt_of_pos (n % 256) (show 0 < (T.size : Int) + 1 by omega)
      exact ⟨((n % 256) % ((T.size : Int) + 1)).toNat, by omega, by omega, trivial⟩
    go_wp2_with fail
    refine (HT.out _).mono ?_
    rintro e w4 ⟨rfl, hn4⟩
    have hn4' : New w w4 := H3.out.2.trans (hn4.mono (fun _ _ h => h.elim))
    have HN4 := Lib.hid hn4'
    clear hn4 hn4' H3 c0 c1 c2 c3 c4 c5 c6 c7 c8
    obtain ⟨m, hm1, hcs⟩ : ∃ m : Nat, m < T.size ∧ ((k = 0 ∧ m + 1 = T.size) ∨ (k = m + 1)) := by
      rcases Nat.eq_zero_or_pos k with h | h
      · exact ⟨T.size - 1, by omega, .inl ⟨h, by omega⟩⟩
      · exact ⟨k - 1, by omega, .inr (by omega)⟩
    have HPm := Lib.hid (HP.out m hm1)
    clear HP
    rcases hcs with ⟨rfl, hm2⟩ | rfl
    · have hm3 : (T.size : Int) - 1 = (m : Int) := by omega
      have hme : ((m : Int) == (T.size : Int)) = false := by simp; omega
      go_wp2_with fail
      refine (HPm.out _).mono ?_
      rintro e w5 ⟨rfl, hn5⟩
      have hn5' : New w w5 := HN4.out.trans (hn5.mono (fun _ _ h => h.elim))
      clear hn5 hm2 hbd
      go_wp2_with fail
      go_ret
      exact ⟨rfl, (hn5'.alloc _).below (Nat.le_refl _) (fun _ _ h => h.elim)⟩
    · have hme : ((m : Int) == (T.size : Int)) = false := by simp; omega
      go_wp2_with fail
      refine (HPm.out _).mono ?_
      rintro e w5 ⟨rfl, hn5⟩
      have hn5' : New w w5 := HN4.out.trans (hn5.mono (fun _ _ h => h.elim))
      clear hn5 hbd
      go_wp2_with fail
      go_ret
      exact ⟨rfl, (hn5'.alloc _).below (Nat.le_refl _) (fun _ _ h => h.elim)⟩
  · have hzb : (chk ⟨x0, x1, x2, x3, x4, x5, x6, x7, x8⟩ != 0) = true := by simp [hz]
    generalize chk ⟨x0, x1, x2, x3, x4, x5, x6, x7, x8⟩ = z at *
    clear hz hb3
    go_wp2_with fail
    refine (HA.out _).mono ?_
    rintro e w4 ⟨rfl, hn4⟩
    go_wp2
    go_ret
    exact ⟨rfl, (hn3'.trans (hn4.mono (fun _ _ h => h.elim))).below (Nat.le_refl _) (fun _ _ h => h.elim)⟩
end Go.Proofs.Ytjelilolimodfaa.vp
