/-
  SerialLatest: the latest of numbers that lie within half of the way round.
-/
import Derived.Test.YtefhhilaadmghaaSerial
import Derived.Test.YtefhhilaadmghaaArgs
import Derived.Test.YtefhhilaadmghaaMask
namespace Go.Proofs.Ytefhhilaadmghaa.ser
open Go.RowKit

/-- the latest of the first n of the numbers V, from f on -/
def lat (f : Int) (V : Nat → Int) : Nat → Int
  | 0 => f
  | n + 1 => if 0 < sd 65536 (V n) (lat f V n) then V n else lat f V n

theorem lat_yes (f : Int) (V : Nat → Int) (n : Nat) (h : 0 < sd 65536 (V n) (lat f V n)) : lat f V (n + 1) = V n := by simp [lat, h]
theorem lat_no (f : Int) (V : Nat → Int) (n : Nat) (h : ¬ 0 < sd 65536 (V n) (lat f V n)) : lat f V (n + 1) = lat f V n := by simp [lat, h]

set_option maxHeartbeats 400000 in
theorem latest (f : Int) (a : Option Addr) (n c : Nat) (V : Nat → Int) (w : World) (hn : n ≤ 9223372036854775807)
    (hc : n = 0 ∨ ∃ b off, a = some ⟨b, off, none⟩ ∧ ∀ i, i < n → w.cell? ⟨b, off + i, none⟩ = some (.int .u16 (V i))) :
    Calls Try.prog 21 #[.int .u16 f, .slice a n c] w fun e w' => e = .returned (.int .u16 (lat f V n)) ∧ w = w' := by
  have HC := Lib.hid hc
  clear hc
  go_enter Try.func21, Try.ntmps21
  go_wp2
  go_loop [5, 11] (fun x i => ∃ k : Nat, k ≤ n ∧ i = .int .i64 k ∧ x = .int .u16 (lat f V k)) (fun _ i => n - (intOf i).toNat)
  case atStart => exact ⟨0, Nat.zero_le _, rfl, rfl⟩
  case round =>
    obtain ⟨k, hk, rfl, rfl⟩ := hrel
    by_cases hlt : k < n
    · obtain ⟨b, off, rfl, hcell⟩ := HC.out.resolve_left (by omega)
      have hck := hcell k hlt
      clear hcell
      have hy := lat_yes f V k
      have hno := lat_no f V k
      have HY := Lib.hid hy
      have HN := Lib.hid hno
      clear hy hno HC
      by_cases ht : 0 < sd 65536 (V k) (lat f V k)
      all_goals
        go_wp2_with (go_at_call 12; refine (ahead16 _ _ _).mono ?_; rintro e w' ⟨rfl, rfl⟩)
        go_round
        case rel => exact ⟨k + 1, by omega, by go_num, by first | rw [HY.out ht] | rw [HN.out ht]⟩
        case measure => simp [intOf]; omega
    · obtain rfl : k = n := by omega
      go_wp2
      go_ret
      exact ⟨rfl, rfl⟩

theorem info16 : (Try.prog.info? 22).map (fun i => (i.zero, i.size, i.bytes)) = some (some (.int .u16 0), 1, 2) := by kernel_rfl

/-- the greatest of the first n of some numbers that are not below 0 -/
def best (B : Nat → Int) : Nat → Int
  | 0 => 0
  | n + 1 => if best B n < B n then B n else best B n

abbrev B14 (z : Nat → Int) : Nat → Int := fun j => z j % 16384

theorem best_bd (z : Nat → Int) (n : Nat) : 0 ≤ best (B14 z) n ∧ best (B14 z) n ≤ 16383 := by
  induction n with
  | zero => simp [best]
  | succ n ih =>
    simp only [best]
    split
    · show 0 ≤ z n % 16384 ∧ z n % 16384 ≤ 16383; omega
    · exact ih

theorem sd_near (f b c : Int) (hb : 0 ≤ b) (hb' : b ≤ 16383) (hc : 0 ≤ c) (hc' : c ≤ 16383) : sd 65536 ((f + b) % 65536) ((f + c) % 65536) = b - c := by
  unfold sd; split <;> omega

theorem lat_best (f : Int) (z : Nat → Int) (hf : 0 ≤ f) (hf' : f ≤ 65535) (n : Nat) : lat f (fun j => (f + z j % 16384) % 65536) n = (f + best (B14 z) n) % 65536 := by
  induction n with
  | zero => simp [lat, best]; omega
  | succ n ih =>
    have hb := best_bd z n
    simp only [lat, best]
    rw [ih, sd_near f _ _ (by omega) (by omega) hb.1 hb.2]
    by_cases h : 0 < z n % 16384 - best (B14 z) n
    · rw [if_pos h, if_pos (show best (B14 z) n < z n % 16384 by omega)]
    · rw [if_neg h, if_neg (show ¬ best (B14 z) n < z n % 16384 by omega)]

theorem row_add (f : Int) (z : Nat → Int) (k : Nat) : ((List.range k).map fun j => Value.int .u16 ((f + z j % 16384) % 65536)) ++ [Value.int .u16 ((f + z k % 16384) % 65536)] = (List.range (k + 1)).map fun j => Value.int .u16 ((f + z j % 16384) % 65536) := by
  rw [List.range_succ, List.map_append]; rfl

/-- what an owned row gives to a callee that reads it -/
theorem row_cells {w : World} {base e n : Nat} {v : Value} {F : Nat → Value} (h : w.ownsRow base e 1 v n ((List.range n).map F)) :
    ∃ a c, v = .slice a n c ∧ (n = 0 ∨ ∃ b off, a = some ⟨b, off, none⟩ ∧ ∀ i, i < n → w.cell? ⟨b, off + i, none⟩ = some (F i)) := by
  obtain ⟨_, h0⟩ := id h
  rcases h0 with ⟨rfl, rfl⟩ | ⟨g, cap, cur, rfl, _⟩
  · exact ⟨none, 0, rfl, .inl rfl⟩
  · refine ⟨_, cap, rfl, .inr ⟨g, 0, rfl, fun i hi => ?_⟩⟩
    rw [Nat.zero_add, h.cellAt i (by omega)]
    simp [hi]

theorem law_end (f q x : Int) (h : x = (f + q) % 65536) : (Value.bool (x == (f + q) % 65536)) = .bool true := by subst h; simp

set_option maxHeartbeats 400000 in
theorem latest_law (f : Int) (a : Option Addr) (n c : Nat) (z : Nat → Int) (w : World) (hf : 0 ≤ f) (hf' : f ≤ 65535) (hz : args.IntRow .i64 w a n c z) :
    Calls Try.prog 7 #[.int .u16 f, .slice a n c] w fun e w' => e = .returned (.bool true) ∧ Below w.heap.size w w' := by
  obtain ⟨hn, hwf, hcell⟩ := hz
  unfold maxLen at hn
  clear hwf
  have HC := Lib.hid hcell
  clear hcell
  obtain ⟨i0, hi, hz0, hz1, hz2⟩ := info_parts info16
  have l0 : ∀ w, Calls Try.prog 21 #[.int .u16 f, .slice none 0 0] w fun e w' => e = .returned (.int .u16 f) ∧ w = w' := fun w => latest f none 0 0 (fun _ => 0) w (by omega) (.inl rfl)
  have L0 := Lib.hid l0
  clear l0
  go_enter Try.func7, Try.ntmps7
  go_wp2_with (go_at_call 10; refine (awake _).mono ?_; rintro e w' ⟨rfl, rfl⟩)
  go_loopw [5, 6, 7] (fun v b i wr => ∃ k : Nat, k ≤ n ∧ k ≤ 30 ∧ i = .int .i64 k ∧ b = .int .i64 (best (B14 z) k) ∧ wr.ownsRow w.heap.size 22 1 v k ((List.range k).map fun j => .int .u16 ((f + z j % 16384) % 65536)) ∧ Below w.heap.size w wr) (fun _ _ i _ => n - (intOf i).toNat)
  case atStart => exact ⟨0, Nat.zero_le _, by omega, rfl, rfl, World.ownsRow_lit w #[] 0 (Nat.le_refl _) (by unfold maxLen; omega) rfl, (Below.refl _ _).alloc (Nat.le_refl _) _⟩
  case round =>
    obtain ⟨k, hk, hk30, rfl, rfl, hown, hbel⟩ := hrel
    have hbest := best_bd z k
    obtain ⟨hq0, hq1⟩ := hbest
    have hsz := hbel.size
    by_cases hgo : k < n ∧ k < 30
    · obtain ⟨hlt, hlt2⟩ := hgo
      obtain ⟨b, off, rfl, hb, hcell⟩ := HC.out.resolve_left (by omega)
      have hck := hcell k hlt
      have hck' : wr.cell? ⟨b, off + k, none⟩ = some (.int .i64 (z k)) := (hbel.cell hb).trans hck
      clear hcell hck HC L0
      have hm := mask.mask14 (z k)
      go_wp2_with (first
        | (go_at_call 15; refine (add16 _ _ _).mono ?_; rintro e w' ⟨rfl, rfl⟩)
        | (at_builtin; refine wpList_append_own _ rfl _ _ 40 rfl w.heap.size 22 i0 (.int .u16 0) 1 2 Try.underlying40 hi hz0 hz1 hz2 rfl (by decide) _ _ _ rfl (hown.alloc _) ⟨wr.heap.size, 0, none⟩ 1 1 [.int .u16 ((f + z k % 16384) % 65536)] rfl rfl ?c1 ?c2 ?c3 ?c4 ?c5 ?_))
      case c1 =>
        intro j u hj
        match j, hj with
        | 0, hj => simp at hj; subst hj; simp [Addr.add]
      case c2 => intro u hu; simp at hu; subst hu; rfl
      case c3 => unfold maxLen; omega
      case c4 => omega
      case c5 => simp; omega
      intro v' w1 hown' hgrow _
      have hown2 := hown'
      rw [row_add] at hown2
      have hbel2 : Below w.heap.size w w1 := (hbel.alloc (by omega) _).grown hgrow (by simp; omega) (fun j hj => by have := (hown.lt j hj).1; omega)
      clear hown' hgrow hown hck'
      go_wp2
      all_goals
        go_roundw
        case rel => exact ⟨k + 1, by omega, by omega, by go_num, rfl, hown2, hbel2⟩
        case measure => simp [intOf]; omega
    · have hlat := lat_best f z hf hf' k
      have HL := Lib.hid hlat
      clear hlat
      obtain ⟨a', c', rfl, hrow⟩ := row_cells hown
      have l1 := latest f a' k c' (fun j => (f + z j % 16384) % 65536) wr (by omega) hrow
      rw [HL.out] at l1
      have L1 := Lib.hid l1
      clear l1 hown hrow HL
      generalize hbk : best (B14 z) k = bk at *
      clear hbk
      have e0 : (f + 0) % 65536 = f := by omega
      by_cases hlt : k < n
      · have hlt2 : ¬ k < 30 := by omega
        go_wp2_with fail
        refine (L1.out).mono ?_; rintro e w' ⟨rfl, rfl⟩
        go_wp2_with fail
        refine (add16 _ _ _).mono ?_; rintro e w' ⟨rfl, rfl⟩
        go_wp2_with fail
        refine (L0.out _).mono ?_; rintro e w' ⟨rfl, rfl⟩
        go_wp2
        go_ret
        exact ⟨rfl, hbel⟩
      · go_wp2_with fail
        refine (L1.out).mono ?_; rintro e w' ⟨rfl, rfl⟩
        go_wp2_with fail
        refine (add16 _ _ _).mono ?_; rintro e w' ⟨rfl, rfl⟩
        go_wp2_with fail
        refine (L0.out _).mono ?_; rintro e w' ⟨rfl, rfl⟩
        go_wp2
        go_ret
        exact ⟨rfl, hbel⟩
end Go.Proofs.Ytefhhilaadmghaa.ser
