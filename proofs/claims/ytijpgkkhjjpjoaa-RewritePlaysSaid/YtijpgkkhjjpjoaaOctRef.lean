/-
  The reference's functions of layer 2 over this translation.
-/
import Derived.Test.YtijpgkkhjjpjoaaWriter
namespace Go.Proofs.Ytijpgkkhjjpjoaa.oref
open Go.RowKit mem rd wr
set_option linter.unusedVariables false

/-- new blocks alone -/
abbrev New (w w' : World) : Prop := Turns (fun _ => False) w w'

def cutS (s : ByteArray) (n : Nat) : ByteArray := if n < s.size then s.extract 0 n else s
theorem cutS_size (s : ByteArray) (n : Nat) : (cutS s n).size ≤ n ∧ (cutS s n).size ≤ s.size := by
  unfold cutS; split
  · rw [ByteArray.size_extract]; omega
  · omega
theorem cut (s : ByteArray) (n : Nat) (hn : n ≤ 1048576) (w : World) :
    Calls Try.prog 22 #[.string s, .int .i64 n] w fun en w' => en = .returned (.string (cutS s n)) ∧ w = w' := by
  have HC : Hid (cutS s n = if n < s.size then s.extract 0 n else s) := Lib.hid rfl
  generalize cutS s n = c at *
  by_cases h : n < s.size
  · have h' : (n : Int) < (s.size : Int) := by omega
    go_enter Try.func22, Try.ntmps22
    go_wp2
    go_ret
    rw [HC.out, if_pos h]
    exact ⟨rfl, rfl⟩
  · have h' : ¬ (n : Int) < (s.size : Int) := by omega
    go_enter Try.func22, Try.ntmps22
    go_wp2
    go_ret
    rw [HC.out, if_neg h]
    exact ⟨rfl, rfl⟩

theorem value (s : ByteArray) (hs : s.size ≤ 8) (w : World) :
    Calls Try.prog 53 #[.string s] w fun en w' => en = .returned (.int .u64 (vl s s.size)) ∧ w = w' := by
  have HV : Hid (vl s s.size = vl s s.size) := Lib.hid rfl
  go_enter Try.func53, Try.ntmps53
  go_wp2
  go_loop [3, 4] (fun x i => ∃ k : Nat, k ≤ s.size ∧ i = .int .i64 k ∧ x = .int .u64 (vl s k)) (fun _ i => s.size - (intOf i).toNat)
  case atStart => exact ⟨0, Nat.zero_le _, rfl, rfl⟩
  case round =>
    obtain ⟨k, hk, rfl, rfl⟩ := hrel
    by_cases hlt : k < s.size
    · have hb7 := vl_bd7 s k (by omega)
      have hv0 := (vl_bd s k).1
      have hbb := bt_bd s k
      obtain ⟨hb0, hb1⟩ := hbb
      have hbt := bt_is s k hlt
      have hsucc : Hid (vl s (k + 1) = vl s k * 256 + bt s k) := Lib.hid rfl
      generalize vl s k = x at *
      generalize bt s k = b at *
      go_wp2
      go_round
      case rel => exact ⟨k + 1, by omega, by go_num, by rw [hsucc.out]⟩
      case measure => simp [intOf]; omega
    · obtain rfl : k = s.size := by omega
      go_wp2
      go_ret
      exact ⟨rfl, rfl⟩

theorem rbytes_err (s : ByteArray) (e n : Int) (w : World) (he : e ≠ 0) :
    Calls Try.prog 52 #[.agg #[.string s, .int .i64 e], .int .i64 n] w fun en w' => en = .returned (.tuple #[.agg #[.string s, .int .i64 e], .string ⟨#[]⟩]) ∧ New w w' := by
  have heb : (e != 0) = true := by simp [he]
  go_enter Try.func52, Try.ntmps52
  go_wp2
  go_returns
  exact ⟨rfl, ((Turns.refl _ _).alloc _).alloc _⟩

theorem rbytes_ok (s : ByteArray) (n : Int) (w : World) (hs : s.size ≤ 4611686018427387904) :
    Calls Try.prog 52 #[.agg #[.string s, .int .i64 0], .int .i64 n] w fun en w' => en = .returned (.tuple #[.agg #[.string (takeS s 0 n), .int .i64 (takeE s 0 n)], .string (takeB s n)]) ∧ New w w' := by
  by_cases hn : n < 0
  · unfold takeS takeE takeB
    rw [if_pos hn, if_pos hn, if_pos hn]
    go_enter Try.func52, Try.ntmps52
    go_wp2
    go_returns
    exact ⟨rfl, ((Turns.refl _ _).alloc _).alloc _⟩
  · by_cases hl : (s.size : Int) < n
    · unfold takeS takeE takeB
      rw [if_neg hn, if_neg hn, if_neg hn, if_pos hl, if_pos hl, if_pos hl]
      go_enter Try.func52, Try.ntmps52
      go_wp2
      go_returns
      exact ⟨rfl, ((Turns.refl _ _).alloc _).alloc _⟩
    · unfold takeS takeE takeB
      rw [if_neg hn, if_neg hn, if_neg hn, if_neg hl, if_neg hl, if_neg hl]
      go_enter Try.func52, Try.ntmps52
      go_wp2
      go_region
      all_goals
        go_wp2
        go_returns
        exact ⟨rfl, by repeat (first | exact Turns.refl _ _ | refine Turns.drew ?_ | refine Turns.alloc ?_ _)⟩

theorem ex0 (a b : Nat) : (⟨#[]⟩ : ByteArray).extract a b = ⟨#[]⟩ := by
  apply ByteArray.ext
  simp [ByteArray.data_extract]

/-- a reader that the calls leave: behind an error nothing is left -/
def Inv (s : ByteArray) (e : Int) : Prop := e ≠ 0 → s = ⟨#[]⟩
theorem Inv.take {s : ByteArray} {e : Int} (h : Inv s e) (n : Int) : Inv (takeS s e n) (takeE s e n) := by
  by_cases he : e = 0
  · subst he
    unfold Inv takeS takeE failS failE
    split
    · simp
    · split <;> simp
  · have hs := h he
    subst hs
    intro _
    unfold takeS failS
    split
    · rw [if_neg (fun h => he h.1)]
    · split
      · rw [if_neg (fun h => he h.1)]
      · exact ex0 _ _
theorem Inv.fail {s : ByteArray} {e : Int} (h : Inv s e) (x : Int) : Inv (failS s e x) (failE e x) := by
  by_cases he : e = 0
  · subst he
    unfold Inv failS failE
    intro hx
    simp at hx
    simp [hx]
  · have hs := h he
    subst hs
    intro _
    unfold failS
    rw [if_neg (fun h => he h.1)]
theorem takeS_size (s : ByteArray) (e n : Int) : (takeS s e n).size ≤ s.size := by
  unfold takeS failS
  split
  · split
    · exact Nat.zero_le _
    · exact Nat.le_refl _
  · split
    · split
      · exact Nat.zero_le _
      · exact Nat.le_refl _
    · rw [ByteArray.size_extract]; omega
theorem failS_size (s : ByteArray) (e x : Int) : (failS s e x).size ≤ s.size := by
  unfold failS
  split
  · exact Nat.zero_le _
  · exact Nat.le_refl _

theorem take_err (e n : Int) (he : e ≠ 0) : takeS ⟨#[]⟩ e n = ⟨#[]⟩ ∧ takeE ⟨#[]⟩ e n = e ∧ takeB ⟨#[]⟩ n = ⟨#[]⟩ := by
  unfold takeS takeE takeB failS failE
  refine ⟨?_, ?_, ?_⟩
  · split
    · rw [if_neg (fun h => he h.1)]
    · split
      · rw [if_neg (fun h => he h.1)]
      · exact ex0 _ _
  · simp [he]
  · split
    · rfl
    · split
      · rfl
      · rename_i h1 h2
        have : (⟨#[]⟩ : ByteArray).size = 0 := rfl
        obtain rfl : n = 0 := by omega
        rfl

theorem rbytes (s : ByteArray) (e n : Int) (w : World) (hs : s.size ≤ 4611686018427387904) (hi : Inv s e) :
    Calls Try.prog 52 #[.agg #[.string s, .int .i64 e], .int .i64 n] w fun en w' => en = .returned (.tuple #[.agg #[.string (takeS s e n), .int .i64 (takeE s e n)], .string (takeB s n)]) ∧ New w w' := by
  by_cases he : e = 0
  · subst he; exact rbytes_ok s n w hs
  · have hse := hi he
    subst hse
    obtain ⟨h1, h2, h3⟩ := take_err e n he
    rw [h1, h2, h3]
    exact rbytes_err _ e n w he

theorem lim_cases (n : Int) : (n < 1 ∧ lim n = 1) ∨ (1 ≤ n ∧ n ≤ 8 ∧ lim n = n) ∨ (8 < n ∧ lim n = 8) := by unfold lim; omega

set_option maxHeartbeats 1000000 in
theorem rtake_core (s : ByteArray) (e n m : Int) (w : World) (hs : s.size ≤ 4611686018427387904) (hi : Inv s e) (hm : (n < 1 ∧ m = 1) ∨ (1 ≤ n ∧ n ≤ 8 ∧ m = n) ∨ (8 < n ∧ m = 8)) :
    Calls Try.prog 42 #[.agg #[.string s, .int .i64 e], .int .i64 n] w fun en w' => en = .returned (.tuple #[.agg #[.string (takeS s e m), .int .i64 (takeE s e m)], .int .u64 (vl (takeB s m) (takeB s m).size)]) ∧ New w w' := by
  have hb : (takeB s m).size ≤ 8 := by have := (takeB_size s m).1; omega
  have R := fun w => rbytes s e m w hs hi
  have V := fun w => value (takeB s m) hb w
  have HR := Lib.hid R
  have HV := Lib.hid V
  clear R V hb
  generalize takeS s e m = s' at *
  generalize takeE s e m = e' at *
  generalize takeB s m = b at *
  rcases hm with ⟨h1, rfl⟩ | ⟨h1, h2, rfl⟩ | ⟨h1, rfl⟩
  all_goals
    go_enter Try.func42, Try.ntmps42
    go_wp2_with fail
    refine (HR.out _).mono ?_
    rintro e w1 ⟨rfl, hw⟩
    have b1 := hw.blk ((Blk.new w #[.string s, .int .i64 e] 96).alloc (.cells #[.string ⟨#[]⟩, .int .i64 0] 96)) (fun h => h)
    have b2 := hw.blk (Blk.new (w.alloc (.cells #[.string s, .int .i64 e] 96)) #[.string ⟨#[]⟩, .int .i64 0] 96) (fun h => h)
    rw [World.size_alloc] at b2
    have t1 := (((Turns.refl (fun _ => False) w).alloc _).alloc _).trans (hw.mono (fun _ _ h => h.elim))
    have b1' := (b1.set 0 (.string s')).set 1 (.int .i64 e')
    have b2' := ((b2.setOther (a := ⟨w.heap.size, 0, none⟩) (by simp) (.string s')).setOther (a := ⟨w.heap.size, 1, none⟩) (by simp) (.int .i64 e'))
    have t2 := (t1.setCell (p := ⟨w.heap.size, 0, none⟩) (.inr (Nat.le_refl _)) (.string s')).setCell (p := ⟨w.heap.size, 1, none⟩) (.inr (Nat.le_refl _)) (.int .i64 e')
    have c10 : w1.cell? ⟨w.heap.size, 0, none⟩ = some (.string s) := b1.cell 0
    have c11 : w1.cell? ⟨w.heap.size, 1, none⟩ = some (.int .i64 e) := b1.cell 1
    have f10 := b1.free 0
    have f11 := b1.free 1
    clear b1 b2 t1 hw HR
    go_wp2
    generalize (w1.setCell ⟨w.heap.size, 0, none⟩ (.string s')).setCell ⟨w.heap.size, 1, none⟩ (.int .i64 e') = w2 at *
    clear c10 c11 f10 f11
    have c10 : w2.cell? ⟨w.heap.size, 0, none⟩ = some (.string s') := b1'.cell 0
    have c11 : w2.cell? ⟨w.heap.size, 1, none⟩ = some (.int .i64 e') := b1'.cell 1
    have c20 : w2.cell? ⟨w.heap.size + 1, 0, none⟩ = some (.string ⟨#[]⟩) := b2'.cell 0
    have c21 : w2.cell? ⟨w.heap.size + 1, 1, none⟩ = some (.int .i64 0) := b2'.cell 1
    have f20 := b2'.free 0
    have f21 := b2'.free 1
    go_region_with (go_at_call 53; refine (HV.out _).mono ?_; rintro e w3 ⟨rfl, rfl⟩)
    all_goals
      go_wp2
      have b3 := ((b2'.set 0 (.string s')).set 1 (.int .i64 e')).drew
      have t3 := ((t2.setCell (p := ⟨w.heap.size + 1, 0, none⟩) (.inr (Nat.le_succ _)) (.string s')).setCell (p := ⟨w.heap.size + 1, 1, none⟩) (.inr (Nat.le_succ _)) (.int .i64 e')).drew
      generalize ((w2.setCell ⟨w.heap.size + 1, 0, none⟩ (.string s')).setCell ⟨w.heap.size + 1, 1, none⟩ (.int .i64 e')).drew = w4 at *
      clear c10 c11 c20 c21 f20 f21
      have c20 : w4.cell? ⟨w.heap.size + 1, 0, none⟩ = some (.string s') := b3.cell 0
      have c21 : w4.cell? ⟨w.heap.size + 1, 1, none⟩ = some (.int .i64 e') := b3.cell 1
      refine bodyPost_ret (v := .tuple #[.agg #[.string s', .int .i64 e'], .int .u64 (vl b b.size)]) (by simp [results, Try.results42, go_sem, c20, c21]) rfl ?_
      exact ⟨rfl, t3⟩
end Go.Proofs.Ytijpgkkhjjpjoaa.oref
