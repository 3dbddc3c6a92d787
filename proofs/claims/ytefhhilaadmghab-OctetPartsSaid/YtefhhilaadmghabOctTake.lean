/-
  The law's own 'take' of layer 2: both readers, side by side.
-/
import Derived.Test.YtefhhilaadmghabOctRef
namespace Go.Proofs.Ytefhhilaadmghab.oref
open Go.RowKit mem rd wr
set_option linter.unusedVariables false

theorem err (p : Nat) (s : ByteArray) (e : Int) (w : World) (h : Rd w p s e) :
    Calls Try.prog 26 #[.pointer (some ⟨p, 0, none⟩)] w fun en w' => en = .returned (.int .i64 e) ∧ w = w' := by
  have h1 := h.c1
  go_enter Try.func26, Try.ntmps26
  go_wp2
  go_ret
  exact ⟨rfl, rfl⟩


/-- End -/
def endS (s : ByteArray) (e : Int) : ByteArray := if 0 < s.size then failS s e 2 else s
def endE (s : ByteArray) (e : Int) : Int := if 0 < s.size then failE e 2 else e
def Ended (w w' : World) (p : Nat) (s : ByteArray) (e : Int) : Prop := Rd w' p (endS s e) (endE s e) ∧ Turns (· = p) w w'
theorem end_ (p : Nat) (s : ByteArray) (e : Int) (w : World) (h : Rd w p s e) :
    Calls Try.prog 24 #[.pointer (some ⟨p, 0, none⟩)] w fun en w' => en = .returned (.int .i64 (endE s e)) ∧ Ended w w' p s e := by
  have h0 := h.c0
  have h1 := h.c1
  have HS : Hid (endS s e = if 0 < s.size then failS s e 2 else s) := Lib.hid rfl
  have HE : Hid (endE s e = if 0 < s.size then failE e 2 else e) := Lib.hid rfl
  unfold Ended
  generalize endS s e = s' at *
  generalize endE s e = e' at *
  by_cases hz : 0 < s.size
  · have hz' : (0 : Int) < (s.size : Int) := by omega
    have HF := Lib.hid (fail p s e 2 w h)
    go_enter Try.func24, Try.ntmps24
    go_wp2_with fail
    refine (HF.out).mono ?_
    rintro en w' ⟨rfl, hf⟩
    have h1' := hf.1.c1
    have HX := Lib.hid hf
    clear hf h0 h1
    go_wp2
    go_ret
    rw [HS.out, HE.out, if_pos hz, if_pos hz]
    exact ⟨rfl, HX.out⟩
  · have hz' : ¬ (0 : Int) < (s.size : Int) := by omega
    go_enter Try.func24, Try.ntmps24
    go_wp2
    go_ret
    rw [HS.out, HE.out, if_neg hz, if_neg hz]
    exact ⟨rfl, h, Turns.refl _ _⟩


theorem numV_bd1 (s : ByteArray) : numV s 1 ≤ 255 := by
  have h1 := (takeB_size s (lim 1)).1
  have h3 : lim 1 = 1 := by decide
  rw [h3] at h1
  unfold numV
  rw [h3]
  have h2 := (vl_bd (takeB s 1) (takeB s 1).size).2
  have : (takeB s 1).size = 0 ∨ (takeB s 1).size = 1 := by omega
  rcases this with h | h <;> rw [h] at h2 ⊢ <;> omega
theorem numV_bd2 (s : ByteArray) : numV s 2 ≤ 65535 := by
  have h1 := (takeB_size s (lim 2)).1
  have h3 : lim 2 = 2 := by decide
  rw [h3] at h1
  unfold numV
  rw [h3]
  have h2 := (vl_bd (takeB s 2) (takeB s 2).size).2
  have : (takeB s 2).size = 0 ∨ (takeB s 2).size = 1 ∨ (takeB s 2).size = 2 := by omega
  rcases this with h | h | h <;> rw [h] at h2 ⊢ <;> omega
theorem numV_bd4 (s : ByteArray) : numV s 4 ≤ 4294967295 := by
  have h1 := (takeB_size s (lim 4)).1
  have h3 : lim 4 = 4 := by decide
  rw [h3] at h1
  unfold numV
  rw [h3]
  have h2 := (vl_bd (takeB s 4) (takeB s 4).size).2
  have : (takeB s 4).size = 0 ∨ (takeB s 4).size = 1 ∨ (takeB s 4).size = 2 ∨ (takeB s 4).size = 3 ∨ (takeB s 4).size = 4 := by omega
  rcases this with h | h | h | h | h <;> rw [h] at h2 ⊢ <;> omega

theorem ru8 (p : Nat) (s : ByteArray) (e : Int) (w : World) (h : Rd w p s e) (hs : s.size ≤ 4611686018427387904) :
    Calls Try.prog 23 #[.pointer (some ⟨p, 0, none⟩)] w fun en w' => en = .returned (.int .u8 (numV s 1)) ∧ Takes w w' p s e 1 := by
  have hN := num p s e 1 w h hs
  rw [show lim 1 = 1 from by decide] at hN
  have h0 := (numV_bd s 1).1
  have h1 := numV_bd1 s
  have HN := Lib.hid hN
  clear hN
  generalize numV s 1 = x at *
  go_enter Try.func23, Try.ntmps23
  go_wp2_with (go_at_call 19; refine (HN.out).mono ?_; rintro e w' ⟨rfl, hw⟩)
  go_ret
  first | exact ⟨rfl, hw⟩ | exact ⟨ret_int (by show x % _ = x; omega), hw⟩

theorem ru16 (p : Nat) (s : ByteArray) (e : Int) (w : World) (h : Rd w p s e) (hs : s.size ≤ 4611686018427387904) :
    Calls Try.prog 22 #[.pointer (some ⟨p, 0, none⟩)] w fun en w' => en = .returned (.int .u16 (numV s 2)) ∧ Takes w w' p s e 2 := by
  have hN := num p s e 2 w h hs
  rw [show lim 2 = 2 from by decide] at hN
  have h0 := (numV_bd s 2).1
  have h1 := numV_bd2 s
  have HN := Lib.hid hN
  clear hN
  generalize numV s 2 = x at *
  go_enter Try.func22, Try.ntmps22
  go_wp2_with (go_at_call 19; refine (HN.out).mono ?_; rintro e w' ⟨rfl, hw⟩)
  go_ret
  first | exact ⟨rfl, hw⟩ | exact ⟨ret_int (by show x % _ = x; omega), hw⟩

theorem ru32 (p : Nat) (s : ByteArray) (e : Int) (w : World) (h : Rd w p s e) (hs : s.size ≤ 4611686018427387904) :
    Calls Try.prog 21 #[.pointer (some ⟨p, 0, none⟩)] w fun en w' => en = .returned (.int .u32 (numV s 4)) ∧ Takes w w' p s e 4 := by
  have hN := num p s e 4 w h hs
  rw [show lim 4 = 4 from by decide] at hN
  have h0 := (numV_bd s 4).1
  have h1 := numV_bd4 s
  have HN := Lib.hid hN
  clear hN
  generalize numV s 4 = x at *
  go_enter Try.func21, Try.ntmps21
  go_wp2_with (go_at_call 19; refine (HN.out).mono ?_; rintro e w' ⟨rfl, hw⟩)
  go_ret
  first | exact ⟨rfl, hw⟩ | exact ⟨ret_int (by show x % _ = x; omega), hw⟩

theorem rest (p : Nat) (s : ByteArray) (e : Int) (w : World) (h : Rd w p s e) (hs : s.size ≤ 4611686018427387904) :
    Calls Try.prog 29 #[.pointer (some ⟨p, 0, none⟩)] w fun en w' => en = .returned (.string (takeB s s.size)) ∧ Takes w w' p s e s.size := by
  have HB := Lib.hid (rd.bytes p s e s.size w h hs)
  have h0 := h.c0
  generalize takeB s s.size = b at *
  go_enter Try.func29, Try.ntmps29
  go_wp2_with (go_at_call 20; refine (HB.out).mono ?_; rintro e w' ⟨rfl, hw⟩)
  go_ret
  exact ⟨rfl, hw⟩

theorem rtake (s : ByteArray) (e n : Int) (w : World) (hs : s.size ≤ 4611686018427387904) (hi : Inv s e) :
    Calls Try.prog 32 #[.agg #[.string s, .int .i64 e], .int .i64 n] w fun en w' => en = .returned (.tuple #[.agg #[.string (takeS s e (lim n)), .int .i64 (takeE s e (lim n))], .int .u64 (numV s n)]) ∧ New w w' :=
  rtake_core s e n (lim n) w hs hi (lim_cases n)

theorem rfail (s : ByteArray) (e x : Int) (w : World) :
    Calls Try.prog 33 #[.agg #[.string s, .int .i64 e], .int .i64 x] w fun en w' => en = .returned (.agg #[.string (failS s e x), .int .i64 (failE e x)]) ∧ New w w' := by
  by_cases he : e = 0
  · subst he
    by_cases hx : x = 0
    · subst hx
      go_enter Try.func33, Try.ntmps33
      go_wp2
      go_returns
      exact ⟨rfl, ((Turns.refl _ _).alloc _).alloc _⟩
    · have hxb : (x != 0) = true := by simp [hx]
      have e1 : failS s 0 x = ⟨#[]⟩ := by unfold failS; rw [if_pos ⟨rfl, hx⟩]
      have e2 : failE 0 x = x := by unfold failE; rw [if_pos rfl]
      rw [e1, e2]
      clear e1 e2
      go_enter Try.func33, Try.ntmps33
      go_wp2
      go_returns
      exact ⟨rfl, ((Turns.refl _ _).alloc _).alloc _⟩
  · have heb : (e == 0) = false := by simp [he]
    have e1 : failS s e x = s := by unfold failS; rw [if_neg (fun h => he h.1)]
    have e2 : failE e x = e := by unfold failE; rw [if_neg he]
    rw [e1, e2]
    clear e1 e2
    go_enter Try.func33, Try.ntmps33
    go_wp2
    go_returns
    exact ⟨rfl, ((Turns.refl _ _).alloc _).alloc _⟩
end Go.Proofs.Ytefhhilaadmghab.oref
