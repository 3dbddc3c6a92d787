/-
  The law's own 'take' of layer 2: both readers, side by side.
-/
import Derived.Test.YtcppibjllaablaaGreatOctRef
namespace Go.Proofs.YtcppibjllaablaaGreat.oref
open Go.RowKit mem rd wr
set_option linter.unusedVariables false

theorem err (p : Nat) (s : ByteArray) (e : Int) (w : World) (h : Rd w p s e) :
    Calls Tryz.prog 49 #[.pointer (some ⟨p, 0, none⟩)] w fun en w' => en = .returned (.int .i64 e) ∧ w = w' := by
  have h1 := h.c1
  go_enter Tryz.func49, Tryz.ntmps49
  go_wp2
  go_ret
  exact ⟨rfl, rfl⟩


/-- End -/
def endS (s : ByteArray) (e : Int) : ByteArray := if 0 < s.size then failS s e 2 else s
def endE (s : ByteArray) (e : Int) : Int := if 0 < s.size then failE e 2 else e
def Ended (w w' : World) (p : Nat) (s : ByteArray) (e : Int) : Prop := Rd w' p (endS s e) (endE s e) ∧ Turns (· = p) w w'


theorem numV_bd1 (s : ByteArray) : numV s 1 ≤ 255 := by
  have h1 := (takeB_size s (lim 1)).1
  have h3 : lim 1 = 1 := by decide
  rw [h3] at h1
  unfold numV
  rw [h3]
  have h2 := (vl_bd (takeB s 1) (takeB s 1).size).2
  have : (takeB s 1).size = 0 ∨ (takeB s 1).size = 1 := by omega
  rcases this with h | h <;> rw [h] at h2 ⊢ <;> omega
theorem numV_bd2 (s : ByteArray) : numV s 2 ≤ 65535 := by
  have h1 := (takeB_size s (lim 2)).1
  have h3 : lim 2 = 2 := by decide
  rw [h3] at h1
  unfold numV
  rw [h3]
  have h2 := (vl_bd (takeB s 2) (takeB s 2).size).2
  have : (takeB s 2).size = 0 ∨ (takeB s 2).size = 1 ∨ (takeB s 2).size = 2 := by omega
  rcases this with h | h | h <;> rw [h] at h2 ⊢ <;> omega
theorem numV_bd4 (s : ByteArray) : numV s 4 ≤ 4294967295 := by
  have h1 := (takeB_size s (lim 4)).1
  have h3 : lim 4 = 4 := by decide
  rw [h3] at h1
  unfold numV
  rw [h3]
  have h2 := (vl_bd (takeB s 4) (takeB s 4).size).2
  have : (takeB s 4).size = 0 ∨ (takeB s 4).size = 1 ∨ (takeB s 4).size = 2 ∨ (takeB s 4).size = 3 ∨ (takeB s 4).size = 4 := by omega
  rcases this with h | h | h | h | h <;> rw [h] at h2 ⊢ <;> omega

theorem ru8 (p : Nat) (s : ByteArray) (e : Int) (w : World) (h : Rd w p s e) (hs : s.size ≤ 4611686018427387904) :
    Calls Tryz.prog 42 #[.pointer (some ⟨p, 0, none⟩)] w fun en w' => en = .returned (.int .u8 (numV s 1)) ∧ Takes w w' p s e 1 := by
  have hN := num p s e 1 w h hs
  rw [show lim 1 = 1 from by decide] at hN
  have h0 := (numV_bd s 1).1
  have h1 := numV_bd1 s
  have HN := Lib.hid hN
  clear hN
  generalize numV s 1 = x at *
  go_enter Tryz.func42, Tryz.ntmps42
  go_wp2_with (go_at_call 82; refine (HN.out).mono ?_; rintro e w' ⟨rfl, hw⟩)
  go_ret
  first | exact ⟨rfl, hw⟩ | exact ⟨ret_int (by show x % _ = x; omega), hw⟩

theorem ru16 (p : Nat) (s : ByteArray) (e : Int) (w : World) (h : Rd w p s e) (hs : s.size ≤ 4611686018427387904) :
    Calls Tryz.prog 44 #[.pointer (some ⟨p, 0, none⟩)] w fun en w' => en = .returned (.int .u16 (numV s 2)) ∧ Takes w w' p s e 2 := by
  have hN := num p s e 2 w h hs
  rw [show lim 2 = 2 from by decide] at hN
  have h0 := (numV_bd s 2).1
  have h1 := numV_bd2 s
  have HN := Lib.hid hN
  clear hN
  generalize numV s 2 = x at *
  go_enter Tryz.func44, Tryz.ntmps44
  go_wp2_with (go_at_call 82; refine (HN.out).mono ?_; rintro e w' ⟨rfl, hw⟩)
  go_ret
  first | exact ⟨rfl, hw⟩ | exact ⟨ret_int (by show x % _ = x; omega), hw⟩

theorem ru32 (p : Nat) (s : ByteArray) (e : Int) (w : World) (h : Rd w p s e) (hs : s.size ≤ 4611686018427387904) :
    Calls Tryz.prog 45 #[.pointer (some ⟨p, 0, none⟩)] w fun en w' => en = .returned (.int .u32 (numV s 4)) ∧ Takes w w' p s e 4 := by
  have hN := num p s e 4 w h hs
  rw [show lim 4 = 4 from by decide] at hN
  have h0 := (numV_bd s 4).1
  have h1 := numV_bd4 s
  have HN := Lib.hid hN
  clear hN
  generalize numV s 4 = x at *
  go_enter Tryz.func45, Tryz.ntmps45
  go_wp2_with (go_at_call 82; refine (HN.out).mono ?_; rintro e w' ⟨rfl, hw⟩)
  go_ret
  first | exact ⟨rfl, hw⟩ | exact ⟨ret_int (by show x % _ = x; omega), hw⟩

theorem rest (p : Nat) (s : ByteArray) (e : Int) (w : World) (h : Rd w p s e) (hs : s.size ≤ 4611686018427387904) :
    Calls Tryz.prog 47 #[.pointer (some ⟨p, 0, none⟩)] w fun en w' => en = .returned (.string (takeB s s.size)) ∧ Takes w w' p s e s.size := by
  have HB := Lib.hid (rd.bytes p s e s.size w h hs)
  have h0 := h.c0
  generalize takeB s s.size = b at *
  go_enter Tryz.func47, Tryz.ntmps47
  go_wp2_with (go_at_call 83; refine (HB.out).mono ?_; rintro e w' ⟨rfl, hw⟩)
  go_ret
  exact ⟨rfl, hw⟩


end Go.Proofs.YtcppibjllaablaaGreat.oref
