/-
  Readers by what is left and the first error: a list of bytes and a number.
-/
import Derived.Test.YtcppibjllaablaaGreatOctNum
namespace Go.Proofs.YtcppibjllaablaaGreat.sq
open Go.RowKit mem rd oref
set_option linter.unusedVariables false

/-- what is left, and the first error -/
abbrev St := List UInt8 × Int
/-- n bytes further -/
def nx (n : Nat) (st : St) : St := if n ≤ st.1.length then (st.1.drop n, st.2) else ([], if st.2 = 0 then 1 else st.2)
/-- the number that the next n bytes are -/
def vn (n : Nat) (st : St) : Int := if n ≤ st.1.length then vlL (st.1.take n) 0 else 0
/-- the next n bytes -/
def bn (n : Nat) (st : St) : List UInt8 := if n ≤ st.1.length then st.1.take n else []
/-- an error -/
def fl (x : Int) (st : St) : St := if st.2 = 0 ∧ x ≠ 0 then ([], x) else st
def Ok (st : St) : Prop := st.2 ≠ 0 → st.1 = []
/-- a reader at block p -/
def Rs (w : World) (p : Nat) (st : St) : Prop := Rd w p ⟨st.1.toArray⟩ st.2 ∧ Ok st ∧ st.1.length ≤ 4611686018427387904
def Step (w w' : World) (p : Nat) (st : St) : Prop := Rs w' p st ∧ Turns (· = p) w w'

theorem Rs.turns {S : Nat → Prop} {w w' : World} {p : Nat} {st : St} (h : Rs w p st) (ht : Turns S w w') (hp : ¬ S p) : Rs w' p st := ⟨h.1.turns ht hp, h.2⟩
theorem Rs.lt {w : World} {p : Nat} {st : St} (h : Rs w p st) : p < w.heap.size := h.1.lt

theorem nx_ok (n : Nat) {st : St} (h : Ok st) : Ok (nx n st) := by
  unfold Ok nx at *
  split
  · intro he; rw [h he]; simp
  · intro _; rfl
theorem nx_len (n : Nat) (st : St) : (nx n st).1.length ≤ st.1.length := by
  unfold nx
  split
  · simp
  · simp
theorem nx_err (n : Nat) {st : St} (he : st.2 ≠ 0) : (nx n st).2 = st.2 := by
  unfold nx
  split
  · rfl
  · rfl
theorem fl_ok (x : Int) {st : St} (h : Ok st) : Ok (fl x st) := by
  unfold Ok fl at *
  split
  · intro _; rfl
  · exact h
theorem fl_len (x : Int) (st : St) : (fl x st).1.length ≤ st.1.length := by
  unfold fl
  split <;> simp

theorem bn_len (n : Nat) (st : St) : (bn n st).length ≤ n ∧ (bn n st).length ≤ st.1.length := by
  unfold bn
  split
  · rw [List.length_take]; omega
  · simp

theorem split_at (l : List UInt8) (n : Nat) (h : n ≤ l.length) : l = l.take n ++ l.drop n ∧ (l.take n).length = n :=
  ⟨(List.take_append_drop n l).symm, by rw [List.length_take]; omega⟩

theorem takeB_st (n : Nat) (st : St) : takeB ⟨st.1.toArray⟩ n = ⟨(bn n st).toArray⟩ := by
  obtain ⟨l, e⟩ := st
  unfold bn
  by_cases h : n ≤ l.length
  · obtain ⟨h1, h2⟩ := split_at l n h
    have := takeB_mk (l.take n) (l.drop n)
    rw [← h1, h2] at this
    rw [if_pos h]; exact this
  · rw [if_neg h]
    unfold takeB
    rw [if_neg (by omega), if_pos (by rw [size_mk]; simp only; omega)]
theorem takeS_st (n : Nat) (st : St) (hok : Ok st) : takeS ⟨st.1.toArray⟩ st.2 n = ⟨(nx n st).1.toArray⟩ := by
  obtain ⟨l, e⟩ := st
  unfold nx
  by_cases h : n ≤ l.length
  · obtain ⟨h1, h2⟩ := split_at l n h
    have := takeS_mk (l.take n) (l.drop n) e
    rw [← h1, h2] at this
    rw [if_pos h]; exact this
  · rw [if_neg h]
    unfold takeS failS
    rw [if_neg (by omega), if_pos (by rw [size_mk]; simp only; omega)]
    split
    · rfl
    · rename_i h2
      by_cases he : e = 0
      · exact absurd ⟨he, by decide⟩ h2
      · have := hok he
        simp only at this
        rw [this]
theorem takeE_st (n : Nat) (st : St) : takeE ⟨st.1.toArray⟩ st.2 n = (nx n st).2 := by
  obtain ⟨l, e⟩ := st
  unfold nx
  by_cases h : n ≤ l.length
  · obtain ⟨h1, h2⟩ := split_at l n h
    have := takeE_mk (l.take n) (l.drop n) e
    rw [← h1, h2] at this
    rw [if_pos h]; exact this
  · rw [if_neg h]
    unfold takeE failE
    rw [if_neg (by omega), if_pos (by rw [size_mk]; simp only; omega)]
theorem numV_st (n : Nat) (x : Int) (hx : x = (n : Int)) (h1 : 1 ≤ n) (h8 : n ≤ 8) (st : St) : numV ⟨st.1.toArray⟩ x = vn n st := by
  subst hx
  have hl : lim n = n := by unfold lim; omega
  unfold numV
  rw [hl, takeB_st, size_mk, vl_list _ _ (Nat.le_refl _), List.take_length]
  unfold vn bn
  split
  · rfl
  · rfl
theorem takes_st {w w' : World} {p : Nat} {st : St} (n : Nat) (x : Int) (hx : x = (n : Int)) (h : Rs w p st) (k : Takes w w' p ⟨st.1.toArray⟩ st.2 x) : Step w w' p (nx n st) := by
  subst hx
  unfold Takes at k
  rw [takeS_st n st h.2.1, takeE_st] at k
  exact ⟨⟨k.1, nx_ok n h.2.1, Nat.le_trans (nx_len n st) h.2.2⟩, k.2⟩

theorem vn_bd (n : Nat) (h1 : 1 ≤ n) (h8 : n ≤ 8) (st : St) : 0 ≤ vn n st ∧ vn n st ≤ 18446744073709551615 := by
  rw [← numV_st n n rfl h1 h8 st]; exact numV_bd _ _
theorem vn_bd1 (st : St) : 0 ≤ vn 1 st ∧ vn 1 st ≤ 255 := ⟨(vn_bd 1 (by omega) (by omega) st).1, by rw [← numV_st 1 1 rfl (by omega) (by omega) st]; exact numV_bd1 _⟩
theorem vn_bd2 (st : St) : 0 ≤ vn 2 st ∧ vn 2 st ≤ 65535 := ⟨(vn_bd 2 (by omega) (by omega) st).1, by rw [← numV_st 2 2 rfl (by omega) (by omega) st]; exact numV_bd2 _⟩
theorem vn_bd4 (st : St) : 0 ≤ vn 4 st ∧ vn 4 st ≤ 4294967295 := ⟨(vn_bd 4 (by omega) (by omega) st).1, by rw [← numV_st 4 4 rfl (by omega) (by omega) st]; exact numV_bd4 _⟩

/-! ### the calls -/
theorem read_st (s : ByteArray) (w : World) (hs : s.size ≤ 4611686018427387904) :
    Calls Tryz.prog 41 #[.string s] w fun e w' => e = .returned (.pointer (some ⟨w.heap.size, 0, none⟩)) ∧ Rs w' w.heap.size (s.data.toList, 0) ∧ New w w' := by
  refine (read s w).mono ?_
  rintro e w' ⟨rfl, rfl⟩
  refine ⟨rfl, ⟨?_, by simp [Ok], ?_⟩, (Turns.refl _ _).alloc _⟩
  · have := Blk.new w #[.string s, .int .i64 0] 182
    unfold Rd
    simpa using this
  · show s.data.toList.length ≤ _
    rw [Array.length_toList]; exact hs

theorem u8_st (p : Nat) (st : St) (w : World) (h : Rs w p st) :
    Calls Tryz.prog 42 #[.pointer (some ⟨p, 0, none⟩)] w fun en w' => en = .returned (.int .u8 (vn 1 st)) ∧ Step w w' p (nx 1 st) := by
  refine (ru8 p _ _ w h.1 h.2.2).mono ?_
  rintro e w' ⟨rfl, hw⟩
  rw [numV_st 1 1 rfl (by omega) (by omega) st]
  exact ⟨rfl, takes_st 1 1 rfl h hw⟩
theorem u16_st (p : Nat) (st : St) (w : World) (h : Rs w p st) :
    Calls Tryz.prog 44 #[.pointer (some ⟨p, 0, none⟩)] w fun en w' => en = .returned (.int .u16 (vn 2 st)) ∧ Step w w' p (nx 2 st) := by
  refine (ru16 p _ _ w h.1 h.2.2).mono ?_
  rintro e w' ⟨rfl, hw⟩
  rw [numV_st 2 2 rfl (by omega) (by omega) st]
  exact ⟨rfl, takes_st 2 2 rfl h hw⟩
theorem u32_st (p : Nat) (st : St) (w : World) (h : Rs w p st) :
    Calls Tryz.prog 45 #[.pointer (some ⟨p, 0, none⟩)] w fun en w' => en = .returned (.int .u32 (vn 4 st)) ∧ Step w w' p (nx 4 st) := by
  refine (ru32 p _ _ w h.1 h.2.2).mono ?_
  rintro e w' ⟨rfl, hw⟩
  rw [numV_st 4 4 rfl (by omega) (by omega) st]
  exact ⟨rfl, takes_st 4 4 rfl h hw⟩
theorem bytes_st (p : Nat) (st : St) (n : Nat) (w : World) (h : Rs w p st) :
    Calls Tryz.prog 83 #[.pointer (some ⟨p, 0, none⟩), .int .i64 n] w fun en w' => en = .returned (.string ⟨(bn n st).toArray⟩) ∧ Step w w' p (nx n st) := by
  refine (rd.bytes p _ _ n w h.1 h.2.2).mono ?_
  rintro e w' ⟨rfl, hw⟩
  rw [takeB_st]
  exact ⟨rfl, takes_st n n rfl h hw⟩
theorem bn_all (st : St) : bn st.1.length st = st.1 := by unfold bn; rw [if_pos (Nat.le_refl _), List.take_length]
theorem nx_all (st : St) : nx st.1.length st = ([], st.2) := by unfold nx; rw [if_pos (Nat.le_refl _), List.drop_length]
theorem rest_st (p : Nat) (st : St) (w : World) (h : Rs w p st) :
    Calls Tryz.prog 47 #[.pointer (some ⟨p, 0, none⟩)] w fun en w' => en = .returned (.string ⟨st.1.toArray⟩) ∧ Step w w' p ([], st.2) := by
  refine (rest p _ _ w h.1 h.2.2).mono ?_
  rintro e w' ⟨rfl, hw⟩
  rw [size_mk] at *
  have := takes_st st.1.length _ rfl h hw
  rw [nx_all] at this
  rw [takeB_st, bn_all]
  exact ⟨rfl, this⟩
theorem err_st (p : Nat) (st : St) (w : World) (h : Rs w p st) :
    Calls Tryz.prog 49 #[.pointer (some ⟨p, 0, none⟩)] w fun en w' => en = .returned (.int .i64 st.2) ∧ w = w' := err p _ _ w h.1
theorem fail_st (p : Nat) (st : St) (x : Int) (w : World) (h : Rs w p st) :
    Calls Tryz.prog 43 #[.pointer (some ⟨p, 0, none⟩), .int .i64 x] w fun en w' => en = .returned (.tuple #[]) ∧ Step w w' p (fl x st) := by
  refine (fail p _ _ x w h.1).mono ?_
  rintro e w' ⟨rfl, hw⟩
  refine ⟨rfl, ⟨?_, fl_ok x h.2.1, Nat.le_trans (fl_len x st) h.2.2⟩, hw.2⟩
  have := hw.1
  obtain ⟨l, e⟩ := st
  unfold failS failE at this
  unfold fl
  simp only at *
  by_cases he : e = 0
  · subst he
    by_cases hx : x = 0
    · subst hx; simpa using this
    · simpa [hx] using this
  · simpa [he] using this


/-! ### what stands there -/
theorem nx_app (a r : List UInt8) (e : Int) (n : Nat) (hn : a.length = n) : nx n (a ++ r, e) = (r, e) := by
  subst hn; unfold nx; rw [if_pos (by simp)]; simp
theorem bn_app (a r : List UInt8) (e : Int) (n : Nat) (hn : a.length = n) : bn n (a ++ r, e) = a := by
  subst hn; unfold bn; rw [if_pos (by simp)]; simp
theorem vn_app (a r : List UInt8) (e : Int) (n : Nat) (hn : a.length = n) : vn n (a ++ r, e) = vlL a 0 := by
  subst hn; unfold vn; rw [if_pos (by simp)]; simp
theorem vn_be (n : Nat) (x : Int) (hx : 0 ≤ x) (hx' : x < 256 ^ n) (r : List UInt8) (e : Int) : vn n (wr.be n x ++ r, e) = x := by
  rw [vn_app _ _ _ _ (wr.be_length n x), vlL_be n x 0 hx, Int.emod_eq_of_lt hx hx']; omega
theorem nx_be (n : Nat) (x : Int) (r : List UInt8) (e : Int) : nx n (wr.be n x ++ r, e) = (r, e) := nx_app _ _ _ _ (wr.be_length n x)
theorem nx_cons (b : UInt8) (r : List UInt8) (e : Int) : nx 1 (b :: r, e) = (r, e) := nx_app [b] r e 1 rfl
theorem vn_cons (b : UInt8) (r : List UInt8) (e : Int) : vn 1 (b :: r, e) = (b.toNat : Int) := by
  rw [show b :: r = [b] ++ r from rfl, vn_app [b] r e 1 rfl]; simp [vlL]
theorem nx_nil (n : Nat) (e : Int) (hn : 1 ≤ n) : nx n ([], e) = ([], if e = 0 then 1 else e) := by
  unfold nx; rw [if_neg (by simp; omega)]
theorem vn_nil (n : Nat) (e : Int) (hn : 1 ≤ n) : vn n ([], e) = 0 := by
  unfold vn; rw [if_neg (by simp; omega)]

/-! ### a beginning -/
/-- s' is s with something less at its end -/
def Short (s s' : St) : Prop := s.2 = 0 ∧ s'.2 = 0 ∧ ∃ t, t ≠ [] ∧ s.1 = s'.1 ++ t
theorem short_nx (n : Nat) {s s' : St} (h : Short s s') : (nx n s').2 = 1 ∨ (vn n s' = vn n s ∧ bn n s' = bn n s ∧ Short (nx n s) (nx n s')) := by
  obtain ⟨l, e⟩ := s
  obtain ⟨l', e'⟩ := s'
  obtain ⟨h1, h2, t, ht, h3⟩ := h
  simp only at h1 h2 h3
  subst h1 h2 h3
  by_cases hn : n ≤ l'.length
  · right
    have hn2 : n ≤ (l' ++ t).length := by rw [List.length_append]; omega
    unfold vn bn nx
    rw [if_pos hn, if_pos hn2, if_pos hn, if_pos hn2, if_pos hn, if_pos hn2]
    refine ⟨?_, ?_, rfl, rfl, t, ht, ?_⟩
    · rw [List.take_append_of_le_length hn]
    · rw [List.take_append_of_le_length hn]
    · exact List.drop_append_of_le_length hn
  · left
    unfold nx
    rw [if_neg hn]
    rfl
theorem nx_one (n : Nat) {s : St} (h : s.2 = 1) : (nx n s).2 = 1 := by rw [nx_err n (by omega)]; exact h
theorem nx_no {n : Nat} {s : St} (h : (nx n s).2 = 0) : s.2 = 0 := by
  rcases Int.decEq s.2 0 with he | he
  · rw [nx_err n he] at h; exact h
  · exact he
/-- with no error so much less is left -/
theorem nx_count {n : Nat} {s : St} (h : (nx n s).2 = 0) : (nx n s).1.length + n = s.1.length := by
  have h0 := nx_no h
  unfold nx at *
  split at h
  · rename_i hn
    rw [if_pos hn]
    simp only [List.length_drop]; omega
  · simp at h
end Go.Proofs.YtcppibjllaablaaGreat.sq
