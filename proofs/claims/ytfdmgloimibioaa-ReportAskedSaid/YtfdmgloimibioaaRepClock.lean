/-
  report.Clock: its calls.
-/
import Derived.Test.YtfdmgloimibioaaRows
import Derived.Test.YtfdmgloimibioaaMem
import Derived.Test.YtfdmgloimibioaaPuts
import Derived.Handy
import Derived.Lib.Hide
import Derived.Outline
import Derived.WalkLawsBesides
import Derived.IntWalk
import Derived.Deep.QuietTactic
import Derived.BigQuiet
namespace Go.Proofs.Ytfdmgloimibioaa.rep
open Go.RowKit mem
set_option linter.unusedVariables false

abbrev New (w w' : World) : Prop := Turns (fun _ => False) w w'
abbrev CT : TypeId := 56
abbrev ckcs (th : Bool) (ntp time : Int) : Array Value := #[.bool th, .int .u64 ntp, .int .u32 time]
def Ck (w : World) (p : Nat) (th : Bool) (ntp time : Int) : Prop := Blk w p (ckcs th ntp time) CT
theorem Ck.new {w w' : World} {p : Nat} {th : Bool} {ntp time : Int} (h : Ck w p th ntp time) (n : New w w') : Ck w' p th ntp time := n.blk h (fun h => h)

theorem time (p : Nat) (th : Bool) (ntp tm : Int) (w : World) (h : Ck w p th ntp tm) :
    Calls Try.prog 25 #[.pointer (some ⟨p, 0, none⟩)] w fun e w' => e = .returned (.tuple #[.int .u32 tm, .bool th]) ∧ New w w' := by
  have c0 := h.cell 0
  have c2 := h.cell 2
  clear h
  go_enter Try.func25, Try.ntmps25
  go_wp2_with fail
  go_quiet (fail)
  go_wp2
  go_ret2
  exact ⟨rfl, (Turns.refl _ _).drewN _⟩

abbrev sdV (ssrc ntp tm packets octets : Int) : Value := .agg #[.int .u32 ssrc, .int .u64 ntp, .int .u32 tm, .int .u32 packets, .int .u32 octets, .slice none 0 0]
theorem put (p : Nat) (th : Bool) (ntp tm ssrc n t a b : Int) (w : World) (h : Ck w p th ntp tm) :
    Calls Try.prog 26 #[.pointer (some ⟨p, 0, none⟩), sdV ssrc n t a b] w fun e w' => e = .returned (.tuple #[]) ∧ Ck w' p true n t ∧ Turns (· = p) w w' := by
  have hb : ∀ o, Ck ((((w.setCell ⟨p, 0, none⟩ (.bool true)).setCell ⟨p, 1, none⟩ (.int .u64 n)).setCell ⟨p, 2, none⟩ (.int .u32 t)).alloc o) p true n t ∧ Turns (· = p) w ((((w.setCell ⟨p, 0, none⟩ (.bool true)).setCell ⟨p, 1, none⟩ (.int .u64 n)).setCell ⟨p, 2, none⟩ (.int .u32 t)).alloc o) := fun o =>
    ⟨(((h.set 0 (.bool true)).set 1 (.int .u64 n)).set 2 (.int .u32 t)).alloc o, ((((Turns.refl (· = p) w).setCell (.inl rfl) _).setCell (.inl rfl) _).setCell (.inl rfl) _).alloc o⟩
  have HB := Lib.hid hb
  have c0 := h.cell 0
  have c1 := h.cell 1
  have c2 := h.cell 2
  have f0 := h.free 0
  have f1 := h.free 1
  have f2 := h.free 2
  have hpl := h.lt
  clear hb h
  go_enter Try.func26, Try.ntmps26
  go_wp2
  go_end0
  exact ⟨rfl, HB.out _⟩

theorem at_no (p : Nat) (ntp tm t : Int) (w : World) (h : Ck w p false ntp tm) :
    Calls Try.prog 27 #[.pointer (some ⟨p, 0, none⟩), .int .u32 t] w fun e w' => e = .returned (.tuple #[.int .u64 0, .bool false]) ∧ w = w' := by
  have c0 := h.cell 0
  clear h
  go_enter Try.func27, Try.ntmps27
  go_wp2
  go_ret2
  exact ⟨rfl, rfl⟩

/-- what At reckons, as the program does -/
def dP (tm t : Int) : Int := wrap64 (wrap32 ((t - tm) % 4294967296))
def atP (ntp tm t : Int) : Int := IntKind.u64.wrap (ntp + IntKind.u64.wrap (wrap64 (wrap64 (wrap64 ((dP tm t).tdiv 90000) * 4294967296) + wrap64 ((wrap64 ((dP tm t).tmod 90000 * 4294967296)).tdiv 90000))))
theorem at_yes (p : Nat) (ntp tm t : Int) (w : World) (h : Ck w p true ntp tm) (n0 : 0 ≤ ntp) (n1 : ntp ≤ 18446744073709551615) (m0 : 0 ≤ tm) (m1 : tm ≤ 4294967295) (t0 : 0 ≤ t) (t1 : t ≤ 4294967295) :
    Calls Try.prog 27 #[.pointer (some ⟨p, 0, none⟩), .int .u32 t] w fun e w' => e = .returned (.tuple #[.int .u64 (atP ntp tm t), .bool true]) ∧ w = w' := by
  have c0 := h.cell 0
  have c1 := h.cell 1
  have c2 := h.cell 2
  clear h
  go_enter Try.func27, Try.ntmps27
  go_wp2
  go_ret2
  exact ⟨rfl, rfl⟩

/-! ### what the reference reckons -/
def d1 (tm t : Int) : Int := if 2147483648 ≤ t - tm then t - tm - 4294967296 else t - tm
def d2 (tm t : Int) : Int := if d1 tm t < -2147483648 then d1 tm t + 4294967296 else d1 tm t
def atR (ntp tm t : Int) : Int :=
  if d2 tm t < 0 then (ntp - (-(d2 tm t)) / 90000 * 4294967296 - (-(d2 tm t)) % 90000 * 4294967296 / 90000) % 18446744073709551616
  else (ntp + d2 tm t / 90000 * 4294967296 + d2 tm t % 90000 * 4294967296 / 90000) % 18446744073709551616
theorem w64_in {x : Int} (h0 : -9223372036854775808 ≤ x) (h1 : x ≤ 9223372036854775807) : wrap64 x = x := by unfold wrap64; omega
theorem dP_is (tm t : Int) (m0 : 0 ≤ tm) (m1 : tm ≤ 4294967295) (t0 : 0 ≤ t) (t1 : t ≤ 4294967295) : dP tm t = d2 tm t ∧ -2147483648 ≤ d2 tm t ∧ d2 tm t ≤ 2147483647 := by
  have h32 : ∀ x : Int, 0 ≤ x → x < 4294967296 → wrap32 x = if 2147483648 ≤ x then x - 4294967296 else x := by
    intro x x0 x1
    unfold wrap32; split <;> omega
  have hd : -2147483648 ≤ d2 tm t ∧ d2 tm t ≤ 2147483647 := by
    unfold d2 d1; split <;> split <;> omega
  refine ⟨?_, hd⟩
  unfold dP
  rw [h32 _ (by omega) (by omega)]
  have e : (if 2147483648 ≤ (t - tm) % 4294967296 then (t - tm) % 4294967296 - 4294967296 else (t - tm) % 4294967296) = d2 tm t := by
    unfold d2 d1; repeat' split
    all_goals omega
  rw [e]
  exact w64_in (by omega) (by omega)
theorem u64_is (x : Int) : IntKind.u64.wrap x = x % 18446744073709551616 := rfl
theorem atP_is (ntp tm t : Int) (m0 : 0 ≤ tm) (m1 : tm ≤ 4294967295) (t0 : 0 ≤ t) (t1 : t ≤ 4294967295) : atP ntp tm t = atR ntp tm t := by
  obtain ⟨h, b0, b1⟩ := dP_is tm t m0 m1 t0 t1
  unfold atP atR
  rw [h]
  generalize d2 tm t = d at *
  by_cases hd : d < 0
  · rw [if_pos hd]
    obtain ⟨e, he⟩ : ∃ e : Int, d = -e := ⟨-d, by omega⟩
    subst he
    rw [Int.neg_neg, Int.neg_tdiv, Int.neg_tmod, Int.tdiv_eq_ediv_of_nonneg (by omega), Int.tmod_eq_emod_of_nonneg (by omega)]
    have q0 : 0 ≤ e / 90000 ∧ e / 90000 ≤ 23862 := by omega
    have r0 : 0 ≤ e % 90000 ∧ e % 90000 < 90000 := by omega
    generalize e / 90000 = q at *
    generalize e % 90000 = r at *
    rw [w64_in (x := -q) (by omega) (by omega), w64_in (x := -q * 4294967296) (by omega) (by omega), w64_in (x := -r * 4294967296) (by omega) (by omega), Int.neg_mul r, Int.neg_tdiv, Int.tdiv_eq_ediv_of_nonneg (by omega)]
    have s0 : 0 ≤ r * 4294967296 / 90000 ∧ r * 4294967296 / 90000 ≤ 4294967296 := by omega
    generalize r * 4294967296 / 90000 = s at *
    rw [w64_in (x := -s) (by omega) (by omega), w64_in (x := -q * 4294967296 + -s) (by omega) (by omega), u64_is, u64_is]
    omega
  · rw [if_neg hd, Int.tdiv_eq_ediv_of_nonneg (by omega), Int.tmod_eq_emod_of_nonneg (by omega)]
    have q0 : 0 ≤ d / 90000 ∧ d / 90000 ≤ 23862 := by omega
    have r0 : 0 ≤ d % 90000 ∧ d % 90000 < 90000 := by omega
    generalize d / 90000 = q at *
    generalize d % 90000 = r at *
    rw [w64_in (x := q) (by omega) (by omega), w64_in (x := q * 4294967296) (by omega) (by omega), w64_in (x := r * 4294967296) (by omega) (by omega), Int.tdiv_eq_ediv_of_nonneg (by omega)]
    have s0 : 0 ≤ r * 4294967296 / 90000 ∧ r * 4294967296 / 90000 ≤ 4294967296 := by omega
    generalize r * 4294967296 / 90000 = s at *
    rw [w64_in (x := s) (by omega) (by omega), w64_in (x := q * 4294967296 + s) (by omega) (by omega), u64_is, u64_is]
    omega

theorem atR_neg (ntp tm t D : Int) (hD : d2 tm t = D) (h0 : D < 0) (h1 : -2147483648 ≤ D) :
    IntKind.u64.wrap (IntKind.u64.wrap (ntp - IntKind.u64.wrap (IntKind.u64.wrap (wrap64 (-(D.tdiv 90000))) * 4294967296)) - IntKind.u64.wrap ((IntKind.u64.wrap (IntKind.u64.wrap (-(D.tmod 90000)) * 4294967296)).tdiv 90000)) = atR ntp tm t := by
  unfold atR
  rw [hD, if_pos h0]
  obtain ⟨e, he⟩ : ∃ e : Int, D = -e := ⟨-D, by omega⟩
  subst he
  rw [Int.neg_neg, Int.neg_tdiv, Int.neg_tmod, Int.neg_neg, Int.neg_neg, Int.tdiv_eq_ediv_of_nonneg (by omega), Int.tmod_eq_emod_of_nonneg (by omega)]
  have q0 : 0 ≤ e / 90000 ∧ e / 90000 ≤ 23862 := by omega
  have r0 : 0 ≤ e % 90000 ∧ e % 90000 < 90000 := by omega
  generalize e / 90000 = q at *
  generalize e % 90000 = r at *
  rw [w64_in (x := q) (by omega) (by omega)]
  have e1 : IntKind.u64.wrap q = q := by rw [u64_is]; omega
  have e2 : IntKind.u64.wrap (q * 4294967296) = q * 4294967296 := by rw [u64_is]; omega
  have e3 : IntKind.u64.wrap r = r := by rw [u64_is]; omega
  have e4 : IntKind.u64.wrap (r * 4294967296) = r * 4294967296 := by rw [u64_is]; omega
  rw [e1, e2, e3, e4, Int.tdiv_eq_ediv_of_nonneg (by omega)]
  have s0 : 0 ≤ r * 4294967296 / 90000 ∧ r * 4294967296 / 90000 ≤ 4294967296 := by omega
  generalize r * 4294967296 / 90000 = s at *
  rw [u64_is, u64_is, u64_is]
  omega
theorem atR_pos (ntp tm t D : Int) (hD : d2 tm t = D) (h0 : 0 ≤ D) (h1 : D ≤ 2147483647) :
    IntKind.u64.wrap (IntKind.u64.wrap (ntp + D / 90000 * 4294967296) + D % 90000 * 4294967296 / 90000) = atR ntp tm t := by
  unfold atR
  rw [hD, if_neg (by omega), u64_is, u64_is]
  omega
set_option maxHeartbeats 1000000 in
theorem refAt (ntp tm t : Int) (w : World) (n0 : 0 ≤ ntp) (n1 : ntp ≤ 18446744073709551615) (m0 : 0 ≤ tm) (m1 : tm ≤ 4294967295) (t0 : 0 ≤ t) (t1 : t ≤ 4294967295) :
    Calls Try.prog 28 #[.int .u64 ntp, .int .u32 tm, .int .u32 t] w fun e w' => e = .returned (.int .u64 (atR ntp tm t)) ∧ w = w' := by
  have hs : IntKind.i64.wrap (t - tm) = t - tm := IntWalk.i64_in _ (by omega)
  have hcases : 2147483648 ≤ t - tm ∨ t - tm < -2147483648 ∨ (-2147483648 ≤ t - tm ∧ t - tm < 0) ∨ (0 ≤ t - tm ∧ t - tm < 2147483648) := by omega
  rcases hcases with h | h | ⟨h, h2⟩ | ⟨h, h2⟩
  · have HE := Lib.hid (atR_neg ntp tm t (t - tm - 4294967296) (by unfold d2 d1; (repeat' split) <;> omega) (by omega) (by omega))
    rw [← HE.out]
    clear HE
    go_enter Try.func28, Try.ntmps28
    go_wp2
    go_ret
    exact ⟨rfl, rfl⟩
  · have HE := Lib.hid (atR_pos ntp tm t (t - tm + 4294967296) (by unfold d2 d1; (repeat' split) <;> omega) (by omega) (by omega))
    rw [← HE.out]
    clear HE
    go_enter Try.func28, Try.ntmps28
    go_wp2
    go_ret
    exact ⟨rfl, rfl⟩
  · have HE := Lib.hid (atR_neg ntp tm t (t - tm) (by unfold d2 d1; (repeat' split) <;> omega) (by omega) (by omega))
    rw [← HE.out]
    clear HE
    go_enter Try.func28, Try.ntmps28
    go_wp2
    go_ret
    exact ⟨rfl, rfl⟩
  · have HE := Lib.hid (atR_pos ntp tm t (t - tm) (by unfold d2 d1; (repeat' split) <;> omega) (by omega) (by omega))
    rw [← HE.out]
    clear HE
    go_enter Try.func28, Try.ntmps28
    go_wp2
    go_ret
    exact ⟨rfl, rfl⟩

theorem sender_no (p : Nat) (ntp tm a b c d : Int) (w : World) (h : Ck w p false ntp tm) :
    Calls Try.prog 24 #[.pointer (some ⟨p, 0, none⟩), .int .u32 a, .int .u32 b, .int .i64 c, .int .i64 d] w fun e w' => e = .returned (.tuple #[sdV 0 0 0 0 0, .bool false]) ∧ New w w' := by
  have c0 := h.cell 0
  have hpl := h.lt
  clear h
  go_enter Try.func24, Try.ntmps24
  go_wp2
  exact bodyPost_ret (v := .tuple #[sdV 0 0 0 0 0, .bool false]) (by simp [results, Try.results24, go_sem]) rfl ⟨rfl, ((Turns.refl _ _).alloc _)⟩

theorem sender (p : Nat) (ntp tm a b c d : Int) (w : World) (h : Ck w p true ntp tm) :
    Calls Try.prog 24 #[.pointer (some ⟨p, 0, none⟩), .int .u32 a, .int .u32 b, .int .i64 c, .int .i64 d] w fun e w' => e = .returned (.tuple #[sdV a ntp b (c % 4294967296) (d % 4294967296), .bool true]) ∧ New w w' := by
  have c0 := h.cell 0
  have c1 := h.cell 1
  have hpl := h.lt
  clear h
  go_enter Try.func24, Try.ntmps24
  go_wp2
  exact bodyPost_ret (v := .tuple #[sdV a ntp b (c % 4294967296) (d % 4294967296), .bool true]) (by simp [results, Try.results24, go_sem]) rfl ⟨rfl, ((Turns.refl _ _).alloc _)⟩
end Go.Proofs.Ytfdmgloimibioaa.rep
