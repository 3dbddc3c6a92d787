/-
  'awake' of layer 2.
-/
import Derived.Test.YtocmikanhcninaaOctTake
namespace Go.Proofs.Ytocmikanhcninaa.oref
open Go.RowKit mem rd wr
set_option linter.unusedVariables false

theorem fresh {w : World} {p : Nat} (h : Blk w p #[.slice none 0 0] 27) : Wr w p none [] :=
  ⟨_, rfl, h, World.ownsRow_nil _ _ _ _, by simp⟩

theorem awake_text : (([] ++ (List.range 1).flatMap fun _ => be 2 258 : List UInt8)) = [1, 2] := by decide +kernel
theorem awake_num : numV ⟨#[1, 2, 3]⟩ 2 = 258 := by decide +kernel
theorem awake_left : (takeS ⟨#[1, 2, 3]⟩ 0 2).size = 1 := by decide +kernel

set_option maxHeartbeats 1000000 in
theorem awake (w : World) :
    Calls Try.prog 14 #[] w fun e w' => e = .returned (.bool true) ∧ New w w' := by
  have W1 : Blk (w.alloc (.cells #[.slice none 0 0] 27)) w.heap.size #[.slice none 0 0] 27 := Blk.new w _ _
  have R1 := read ⟨#[1, 2, 3]⟩ (w.alloc (.cells #[.slice none 0 0] 27))
  have HR := Lib.hid R1
  clear R1
  go_enter Try.func14, Try.ntmps14
  go_wp2_with fail
  refine (HR.out).mono ?_
  rintro en w1 ⟨rfl, rfl⟩
  rw [World.size_alloc]
  go_wp2_with fail
  have n0 : New w (((w.alloc (.cells #[.slice none 0 0] 27)).alloc (.cells #[.string ⟨#[1, 2, 3]⟩, .int .i64 0] 101)).alloc (.cells #[.int .u16 258] 33)) := (((Turns.refl _ _).alloc _).alloc _).alloc _
  have wb := fresh ((W1.alloc (.cells #[.string ⟨#[1, 2, 3]⟩, .int .i64 0] 101)).alloc (.cells #[.int .u16 258] 33))
  have rb : Rd (((w.alloc (.cells #[.slice none 0 0] 27)).alloc (.cells #[.string ⟨#[1, 2, 3]⟩, .int .i64 0] 101)).alloc (.cells #[.int .u16 258] 33)) (w.heap.size + 1) ⟨#[1, 2, 3]⟩ 0 := by
    have := (Blk.new (w.alloc (.cells #[.slice none 0 0] 27)) #[.string ⟨#[1, 2, 3]⟩, .int .i64 0] 101).alloc (.cells #[.int .u16 258] 33)
    rwa [World.size_alloc] at this
  have cb : Blk (((w.alloc (.cells #[.slice none 0 0] 27)).alloc (.cells #[.string ⟨#[1, 2, 3]⟩, .int .i64 0] 101)).alloc (.cells #[.int .u16 258] 33)) (w.heap.size + 1 + 1) #[.int .u16 258] 33 := by
    have := Blk.new ((w.alloc (.cells #[.slice none 0 0] 27)).alloc (.cells #[.string ⟨#[1, 2, 3]⟩, .int .i64 0] 101)) #[.int .u16 258] 33
    rwa [World.size_alloc, World.size_alloc] at this
  generalize ((w.alloc (.cells #[.slice none 0 0] 27)).alloc (.cells #[.string ⟨#[1, 2, 3]⟩, .int .i64 0] 101)).alloc (.cells #[.int .u16 258] 33) = w1 at *
  refine (u16 w.heap.size none [] (w.heap.size + 1 + 1) 1 1 (fun _ => 258) w1 wb (fun i hi => match i, hi with | 0, _ => cb.cell 0) (fun _ _ => by omega) cb.lt (by omega) (by simp) (by simp)).mono ?_
  rintro en w2 ⟨rfl, hw2⟩
  rw [awake_text] at hw2
  obtain ⟨q, hb2, ht2, hq2⟩ := hw2
  have rb2 := rb.turns ht2 (by simp)
  have n2 : New w w2 := n0.trans (ht2.mono (fun k _ hk => .inr (by rcases hk with rfl | hk; exact Nat.le_refl _; cases hk)))
  have HT := Lib.hid (text w.heap.size q [1, 2] w2 hb2)
  clear hb2 ht2 hq2 rb cb wb n0 HR W1
  go_wp2_with fail
  refine (HT.out).mono ?_
  rintro en w3 ⟨rfl, rfl⟩
  have HU := Lib.hid (ru16 (w.heap.size + 1) ⟨#[1, 2, 3]⟩ 0 w2 rb2 (by show 3 ≤ _; omega))
  rw [awake_num] at HU
  have e1 : (({ data := #[1, 2] } : ByteArray).toList == ({ data := #[1, 2] } : ByteArray).toList) = true := by simp
  go_wp2_with fail
  refine (HU.out).mono ?_
  rintro en w4 ⟨rfl, hr4, ht4⟩
  have HL := Lib.hid (len (w.heap.size + 1) _ _ w4 hr4)
  rw [awake_left] at HL
  have n4 : New w w4 := n2.trans (ht4.mono (fun k _ hk => .inr (by rw [hk]; omega)))
  go_wp2_with fail
  refine (HL.out).mono ?_
  rintro en w5 ⟨rfl, rfl⟩
  go_wp2
  go_ret
  exact ⟨rfl, n4⟩
end Go.Proofs.Ytocmikanhcninaa.oref
