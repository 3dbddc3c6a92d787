/-
  'awake' of layer 8, and ExtendJumps: a number that is too far.
-/
import Derived.Test.YtgppddmfdhpaiaaExtRef
import Derived.Test.YtgppddmfdhpaiaaMask
namespace Go.Proofs.Ytgppddmfdhpaiaa.ext
open Go.RowKit mem ser
set_option linter.unusedVariables false

theorem put_is (p : Nat) (s : Q) (n : Int) (t : Q) (a : Int) (b : Bool) (ht : put s n = t ∧ putAt s n = a ∧ putOk s n = b) (w : World) (h : Sq w p s) (ho : s.ok) (hn0 : 0 ≤ n) (hn1 : n ≤ 65535) :
    Calls Try.prog 14 #[.pointer (some ⟨p, 0, none⟩), .int .u16 n] w fun e w' => e = .returned (.tuple #[.int .i64 a, .bool b]) ∧ At w w' p t := by
  obtain ⟨rfl, rfl, rfl⟩ := ht
  exact put_any p s n w h ho hn0 hn1

theorem ok_mk {m j a r : Int} (m0 : 0 ≤ m) (m1 : m ≤ 1125899906842624) (j0 : 0 ≤ j) (j1 : j ≤ 1048576) (a0 : 0 ≤ a) (a1 : a ≤ 65535) (r0 : 0 ≤ r) (r1 : r ≤ 1) : (⟨m, j, a, r⟩ : Q).ok := ⟨m0, m1, j0, j1, a0, a1, r0, r1⟩
theorem sq_new (w : World) : Sq (w.alloc (.cells #[.int .i64 0, .int .i64 0, .int .u16 0, .int .i64 0] 26)) w.heap.size zero := Blk.new w _ _
theorem zero_ok : zero.ok := zero_upto.ok (by omega)

/-- what was made here may turn -/
theorem new_at {w w1 w2 : World} {p : Nat} {t : Q} (h1 : New w w1) (h2 : At w1 w2 p t) (hp : w.heap.size ≤ p) : New w w2 :=
  h1.trans (h2.2.mono (fun k _ h => .inr (by omega)))

theorem aw1 : put zero 65535 = ⟨1114111, 0, 0, 0⟩ ∧ putAt zero 65535 = 1114111 ∧ putOk zero 65535 = true := ⟨rfl, rfl, rfl⟩
theorem aw2 : put ⟨1114111, 0, 0, 0⟩ 0 = ⟨1114112, 0, 0, 0⟩ ∧ putAt ⟨1114111, 0, 0, 0⟩ 0 = 1114112 ∧ putOk ⟨1114111, 0, 0, 0⟩ 0 = true := ⟨rfl, rfl, rfl⟩
theorem ok1 : (⟨1114111, 0, 0, 0⟩ : Q).ok := ⟨by decide, by decide, by decide, by decide, by decide, by decide, by decide, by decide⟩

theorem awake (w : World) :
    Calls Try.prog 13 #[] w fun e w' => e = .returned (.bool true) ∧ New w w' := by
  have hq := sq_new w
  have hn : New w (w.alloc (.cells #[.int .i64 0, .int .i64 0, .int .u16 0, .int .i64 0] 26)) := (Turns.refl _ _).alloc _
  have HQ := Lib.hid hq
  have HN := Lib.hid hn
  clear hq hn
  go_enter Try.func13, Try.ntmps13
  go_wp2_with fail
  refine (put_is _ zero 65535 _ _ _ aw1 _ HQ.out zero_ok (by omega) (by omega)).mono ?_
  rintro e w1 ⟨rfl, h1⟩
  have n1 := new_at HN.out h1 (Nat.le_refl _)
  generalize hpe : w.heap.size = p at *
  have HP := Lib.hid hpe
  clear hpe
  go_wp2_with fail
  refine (put_is _ _ 0 _ _ _ aw2 _ h1.1 ok1 (by omega) (by omega)).mono ?_
  rintro e w2 ⟨rfl, h2⟩
  have n2 : New w w2 := new_at n1 h2 (Nat.le_of_eq HP.out)
  go_wp2_with (first
    | (go_at_call 16; refine (most _ _ _ h2.1).mono ?_; rintro e w' ⟨rfl, rfl⟩)
    | (go_at_call 17; refine (jumps _ _ _ h2.1).mono ?_; rintro e w' ⟨rfl, rfl⟩))
  go_ret
  exact ⟨rfl, n2⟩

/-! ### a number that is too far -/
theorem jm1 (a : Int) (ha : 0 ≤ a) (ha' : a ≤ 65535) : put zero a = ⟨1048576 + a, 0, 0, 0⟩ ∧ putAt zero a = 1048576 + a ∧ putOk zero a = true := by
  refine ⟨?_, ?_, ?_⟩
  · simp [put, zero, believed]; omega
  · simp [putAt, zero]
  · simp [putOk, zero]

theorem sd_far (a d : Int) (ha : 0 ≤ a) (ha' : a ≤ 65535) (hd : 3001 ≤ d) (hd' : d ≤ 62001) :
    sd 65536 ((a + d) % 65536) ((1048576 + a) % 65536) < -3000 ∨ 3000 < sd 65536 ((a + d) % 65536) ((1048576 + a) % 65536) := by
  unfold sd; split <;> omega

theorem not_near (a d : Int) (j x r : Int) (ha : 0 ≤ a) (ha' : a ≤ 65535) (hd : 3001 ≤ d) (hd' : d ≤ 62001) (n : Int) (hn : n = (a + d) % 65536) :
    nearB ⟨1048576 + a, j, x, r⟩ (nearv ⟨1048576 + a, j, x, r⟩ n) = false := by
  subst hn
  have := sd_far a d ha ha' hd hd'
  show decide (1048576 + a - 3000 ≤ 1048576 + a + sd 65536 ((a + d) % 65536) ((1048576 + a) % 65536) ∧ 1048576 + a + sd 65536 ((a + d) % 65536) ((1048576 + a) % 65536) ≤ 1048576 + a + 3000) = false
  exact decide_eq_false (by omega)

theorem jm2 (a d n : Int) (ha : 0 ≤ a) (ha' : a ≤ 65535) (hd : 3001 ≤ d) (hd' : d ≤ 62000) (hn : n = (a + d) % 65536) :
    put ⟨1048576 + a, 0, 0, 0⟩ n = ⟨1048576 + a, 0, (n + 1) % 65536, 1⟩ ∧ putAt ⟨1048576 + a, 0, 0, 0⟩ n = 0 ∧ putOk ⟨1048576 + a, 0, 0, 0⟩ n = false := by
  have h1 : ¬ (1048576 + a = 0) := by omega
  have h2 := not_near a d 0 0 0 ha ha' hd (by omega) n hn
  have h3 : far2 ⟨1048576 + a, 0, 0, 0⟩ n = true := by simp [far2, followed]
  simp only [put, putAt, putOk, h1, h2, h3, if_false, if_true, Bool.false_eq_true, followed, and_self, and_true]
  simp

theorem jm3 (a d n k : Int) (ha : 0 ≤ a) (ha' : a ≤ 65535) (hd : 3001 ≤ d) (hd' : d ≤ 62000) (hn : n = (a + d) % 65536) (hk : k = (n + 1) % 65536) :
    put ⟨1048576 + a, 0, k, 1⟩ k = ⟨1179648 + k, 1, (k + 1) % 65536, 0⟩ ∧ putAt ⟨1048576 + a, 0, k, 1⟩ k = 1179648 + k ∧ putOk ⟨1048576 + a, 0, k, 1⟩ k = true := by
  have h1 : ¬ (1048576 + a = 0) := by omega
  have h2 := not_near a (d + 1) 0 k 1 ha ha' (by omega) (by omega) k (by omega)
  have h3 : far2 ⟨1048576 + a, 0, k, 1⟩ k = false := by simp [far2, followed]
  have h4 : leap ⟨1048576 + a, 0, k, 1⟩ k = 1179648 + k := by simp only [leap]; omega
  have h5 : max (1048576 + a) (1179648 + k) = 1179648 + k := by omega
  simp only [put, putAt, putOk, h1, h2, h3, if_false, if_true, Bool.false_eq_true, jumped, h4, believed, followed, h5, and_self, and_true]
  simp

theorem jm4 (n k o : Int) (hn : 0 ≤ n) (hn' : n ≤ 65535) (hk : k = (n + 1) % 65536) (ho : o = (n + 2) % 65536) (x : Int) :
    putAt ⟨1179648 + k, 1, x, 0⟩ o = 1179648 + k + 1 ∧ putOk ⟨1179648 + k, 1, x, 0⟩ o = true ∧ (put ⟨1179648 + k, 1, x, 0⟩ o).j = 1 := by
  have h0 : sd 65536 o ((1179648 + k) % 65536) = 1 := by unfold sd; split <;> omega
  have h1 : ¬ (1179648 + k = 0) := by omega
  have hv : nearv ⟨1179648 + k, 1, x, 0⟩ o = 1179648 + k + 1 := by simp only [nearv, h0]
  have h2 : nearB ⟨1179648 + k, 1, x, 0⟩ (1179648 + k + 1) = true := by
    show decide (1179648 + k - 3000 ≤ 1179648 + k + 1 ∧ 1179648 + k + 1 ≤ 1179648 + k + 3000) = true
    exact decide_eq_true (by omega)
  simp [put, putAt, putOk, h1, hv, h2, believed]

set_option maxHeartbeats 1000000 in
theorem jumps_law (a b : Int) (w : World) (ha : 0 ≤ a) (ha' : a ≤ 65535) (hb : -9223372036854775808 ≤ b) (hb' : b ≤ 9223372036854775807) :
    Calls Try.prog 5 #[.int .u16 a, .int .i64 b] w fun e w' => e = .returned (.bool true) ∧ Below w.heap.size w w' := by
  have hm := mask.mask16 b
  have x0 : 0 ≤ b % 65536 := by omega
  have x1 : b % 65536 ≤ 65535 := by omega
  generalize b % 65536 = x at *
  obtain ⟨d, hd⟩ : ∃ d, d = 3001 + x % 59000 := ⟨_, rfl⟩
  obtain ⟨n, hn⟩ : ∃ n, n = (a + d) % 65536 := ⟨_, rfl⟩
  obtain ⟨k, hk⟩ : ∃ k, k = (n + 1) % 65536 := ⟨_, rfl⟩
  obtain ⟨o, ho⟩ : ∃ o, o = (n + 2) % 65536 := ⟨_, rfl⟩
  have e1 : IntKind.u16.wrap (3001 + x % 59000) = d := by rw [w16]; omega
  have e2 : IntKind.u16.wrap (a + d) = n := by rw [w16]; omega
  have e3 : IntKind.u16.wrap (n + 1) = k := by rw [w16]; omega
  have e4 : IntKind.u16.wrap (n + 2) = o := by rw [w16]; omega
  have e5 : IntKind.u16.wrap (1179648 + k) = k := by rw [w16]; omega
  have J1 := jm1 a ha ha'
  have J2 := jm2 a d n ha ha' (by omega) (by omega) hn
  have J3 := jm3 a d n k ha ha' (by omega) (by omega) hn hk
  have J4 := jm4 n k o (by omega) (by omega) hk ho ((k + 1) % 65536)
  have hk0 : 0 ≤ k := by omega
  have hk1 : k ≤ 65535 := by omega
  have o1 : (⟨1048576 + a, 0, 0, 0⟩ : Q).ok := ok_mk (by omega) (by omega) (by omega) (by omega) (by omega) (by omega) (by omega) (by omega)
  have o2 : (⟨1048576 + a, 0, k, 1⟩ : Q).ok := ok_mk (by omega) (by omega) (by omega) (by omega) (by omega) (by omega) (by omega) (by omega)
  have o3 : (⟨1179648 + k, 1, (k + 1) % 65536, 0⟩ : Q).ok := ok_mk (by omega) (by omega) (by omega) (by omega) (by omega) (by omega) (by omega) (by omega)
  have bn : 0 ≤ n ∧ n ≤ 65535 := by omega
  have bo : 0 ≤ o ∧ o ≤ 65535 := by omega
  rw [← hk] at J2
  have HJ := Lib.hid (And.intro J1 (And.intro J2 (And.intro J3 J4)))
  have HO := Lib.hid (And.intro o1 (And.intro o2 o3))
  have HD := Lib.hid hd
  clear J1 J2 J3 J4 hd hn hk ho o1 o2 o3
  obtain ⟨bn0, bn1⟩ := bn
  obtain ⟨bo0, bo1⟩ := bo
  have hlt : 1048576 + a + 65536 - 1 < 1179648 + k := by omega
  go_enter Try.func5, Try.ntmps5
  go_wp2_with fail
  refine (awake w).mono ?_
  rintro e w1 ⟨rfl, h1⟩
  go_wp2_with fail
  have hq := sq_new w1
  have N1 : New w (w1.alloc (.cells #[.int .i64 0, .int .i64 0, .int .u16 0, .int .i64 0] 26)) := h1.alloc _
  have hle : w.heap.size ≤ w1.heap.size := h1.size
  generalize w1.alloc (.cells #[.int .i64 0, .int .i64 0, .int .u16 0, .int .i64 0] 26) = w2 at *
  generalize w1.heap.size = p at *
  refine (put_is _ zero a _ _ _ HJ.out.1 _ hq zero_ok (by omega) (by omega)).mono ?_
  rintro e w3 ⟨rfl, h3⟩
  have N2 := new_at N1 h3 hle
  clear N1 hq h1
  go_wp2_with fail
  refine (put_is _ _ n _ _ _ HJ.out.2.1 _ h3.1 HO.out.1 (by omega) (by omega)).mono ?_
  rintro e w4 ⟨rfl, h4⟩
  have N3 := new_at N2 h4 hle
  clear N2 h3
  go_wp2_with fail
  refine (put_is _ _ k _ _ _ HJ.out.2.2.1 _ h4.1 HO.out.2.1 (by omega) (by omega)).mono ?_
  rintro e w5 ⟨rfl, h5⟩
  have N4 := new_at N3 h5 hle
  clear N3 h4
  go_wp2_with fail
  refine (put_is _ _ o _ _ _ ⟨rfl, HJ.out.2.2.2.1, HJ.out.2.2.2.2.1⟩ _ h5.1 HO.out.2.2 (by omega) (by omega)).mono ?_
  rintro e w6 ⟨rfl, h6⟩
  have N5 := new_at N4 h6 hle
  clear N4 h5
  have hj := jumps _ _ _ h6.1
  rw [HJ.out.2.2.2.2.2] at hj
  have HJJ := Lib.hid hj
  clear hj h6
  go_wp2_with fail
  refine (HJJ.out).mono ?_
  rintro e w7 ⟨rfl, rfl⟩
  go_wp2
  go_ret
  exact ⟨rfl, N5.below (Nat.le_refl _) (fun _ _ h => h.elim)⟩
end Go.Proofs.Ytgppddmfdhpaiaa.ext
