/-
  extend.Seq's Put.
-/
import Derived.Test.YtgppddmfdhpaiaaExtSeq
namespace Go.Proofs.Ytgppddmfdhpaiaa.ext
open Go.RowKit mem ser
set_option linter.unusedVariables false

def nearv (s : Q) (n : Int) : Int := s.m + sd 65536 n (s.m % 65536)
def leap (s : Q) (n : Int) : Int := (s.m / 65536 + 2) * 65536 + n
def jumped (s : Q) (n : Int) : Q := believed { followed s n with j := s.j + 1 } (leap s n)
def far2 (s : Q) (n : Int) : Bool := decide ((followed s n).r < 2)

def put (s : Q) (n : Int) : Q :=
  if s.m = 0 then believed s (1048576 + n)
  else if nearB s (nearv s n) = true then believed s (nearv s n)
  else if far2 s n = true then followed s n else jumped s n
def putAt (s : Q) (n : Int) : Int :=
  if s.m = 0 then 1048576 + n
  else if nearB s (nearv s n) = true then nearv s n
  else if far2 s n = true then 0 else leap s n
def putOk (s : Q) (n : Int) : Bool :=
  if s.m = 0 then true
  else if nearB s (nearv s n) = true then true
  else if far2 s n = true then false else true

/-- what Put leaves and answers -/
abbrev Put (s : Q) (n : Int) (p : Nat) (w : World) (e : Ending) (w' : World) : Prop :=
  e = .returned (.tuple #[.int .i64 (putAt s n), .bool (putOk s n)]) ∧ At w w' p (put s n)

theorem at_trans {w w1 w2 : World} {p : Nat} {s t : Q} (h1 : At w w1 p s) (h2 : At w1 w2 p t) : At w w2 p t :=
  ⟨h2.1, h1.2.trans (h2.2.mono (fun _ _ h => .inl h))⟩

set_option maxHeartbeats 400000 in
theorem put_any (p : Nat) (s : Q) (n : Int) (w : World) (h : Sq w p s) (ho : s.ok) (hn0 : 0 ≤ n) (hn1 : n ≤ 65535) :
    Calls Try.prog 14 #[.pointer (some ⟨p, 0, none⟩), .int .u16 n] w (Put s n p w) := by
  have c0 := h.c0
  by_cases hm : s.m = 0
  · have HE : Hid (putAt s n = 1048576 + n ∧ putOk s n = true ∧ put s n = believed s (1048576 + n)) := Lib.hid (by simp [putAt, putOk, put, hm])
    have HB := Lib.hid (believe p s (1048576 + n) w h)
    rw [hm] at c0
    clear hm
    go_enter Try.func14, Try.ntmps14
    go_wp2_with fail
    refine HB.out.mono ?_
    rintro e w1 ⟨rfl, hw⟩
    go_wp2
    go_ret2
    unfold Put
    rw [HE.out.1, HE.out.2.1, HE.out.2.2]
    exact ⟨rfl, hw⟩
  · have hmb : (s.m == 0) = false := by simp [hm]
    have m0 := ho.m0
    have m1 := ho.m1
    have HN := Lib.hid (near16 s.m n (by omega) (by omega) w)
    have HI := Lib.hid (isNear p s (nearv s n) w h ho)
    have HB := Lib.hid (believe p s (nearv s n) w h)
    have HF := Lib.hid (follow p s n w h ho hn0 hn1)
    have hv : Hid (s.m + sd 65536 n (s.m % 65536) = nearv s n) := Lib.hid rfl
    by_cases hq : nearB s (nearv s n) = true
    · have HE : Hid (putAt s n = nearv s n ∧ putOk s n = true ∧ put s n = believed s (nearv s n)) := Lib.hid (by simp [putAt, putOk, put, hm, hq])
      rw [hv.out] at HN
      rw [hq] at HI
      generalize nearv s n = v at *
      generalize s.m = m at *
      clear hm hv hq
      go_enter Try.func14, Try.ntmps14
      go_wp2_with fail
      refine HN.out.mono ?_
      rintro e w1 ⟨rfl, rfl⟩
      go_wp2_with fail
      refine HI.out.mono ?_
      rintro e w1 ⟨rfl, rfl⟩
      go_wp2_with fail
      refine HB.out.mono ?_
      rintro e w1 ⟨rfl, hw⟩
      go_wp2
      go_ret2
      unfold Put
      rw [HE.out.1, HE.out.2.1, HE.out.2.2]
      exact ⟨rfl, hw⟩
    · have hq' : nearB s (nearv s n) = false := by simpa using hq
      by_cases hf : far2 s n = true
      · have HE : Hid (putAt s n = 0 ∧ putOk s n = false ∧ put s n = followed s n) := Lib.hid (by simp [putAt, putOk, put, hm, hq, hf])
        have hr : (followed s n).r < 2 := by simpa [far2] using hf
        rw [hv.out] at HN
        rw [hq'] at HI
        generalize nearv s n = v at *
        generalize s.m = m at *
        clear hm hv hq hq' hf HB
        go_enter Try.func14, Try.ntmps14
        go_wp2_with fail
        refine HN.out.mono ?_
        rintro e w1 ⟨rfl, rfl⟩
        go_wp2_with fail
        refine HI.out.mono ?_
        rintro e w1 ⟨rfl, rfl⟩
        go_wp2_with fail
        refine HF.out.mono ?_
        rintro e w1 ⟨rfl, hw⟩
        have c3 := hw.1.c3
        clear c0
        go_wp2
        go_ret2
        unfold Put
        rw [HE.out.1, HE.out.2.1, HE.out.2.2]
        exact ⟨rfl, hw⟩
      · have HE : Hid (putAt s n = leap s n ∧ putOk s n = true ∧ put s n = jumped s n) := Lib.hid (by simp [putAt, putOk, put, hm, hq, hf])
        have hr : ¬ (followed s n).r < 2 := by simpa [far2] using hf
        have j0 := ho.j0
        have j1 := ho.j1
        have e1 : (followed s n).m = s.m := rfl
        have e2 : (followed s n).j = s.j := rfl
        have hl : Hid ((s.m / 65536 + 2) * 65536 + n = leap s n) := Lib.hid rfl
        have HJ : Hid (jumped s n = believed { followed s n with j := s.j + 1 } (leap s n)) := Lib.hid rfl
        rw [hv.out] at HN
        rw [hq'] at HI
        generalize hfs : followed s n = t at *
        clear hfs
        generalize nearv s n = v at *
        generalize s.m = m at *
        generalize s.j = j at *
        clear hm hv hq hq' hf HB
        have E1 := Lib.hid e1
        have E2 := Lib.hid e2
        clear e1 e2
        go_enter Try.func14, Try.ntmps14
        go_wp2_with fail
        refine HN.out.mono ?_
        rintro e w1 ⟨rfl, rfl⟩
        go_wp2_with fail
        refine HI.out.mono ?_
        rintro e w1 ⟨rfl, rfl⟩
        go_wp2_with fail
        refine HF.out.mono ?_
        rintro e w1 ⟨rfl, hw⟩
        have c3 := hw.1.c3
        have d0 := hw.1.c0
        have d1 := hw.1.c1
        have f1 := hw.1.f1
        rw [E1.out] at d0
        rw [E2.out] at d1
        have hs := hw.1.s1 (j + 1)
        have ht : Turns (· = p) w (w1.setCell ⟨p, 1, none⟩ (.int .i64 (j + 1))) := hw.2.setCell (.inl rfl) _
        have HS := Lib.hid hs
        have HT := Lib.hid ht
        clear c0 hs ht hw
        have HBL := fun w h => believe p { t with j := j + 1 } (leap s n) w h
        rw [← hl.out] at HBL HE HJ
        have HBK := Lib.hid HBL
        clear HBL hl
        go_wp2_with fail
        refine (HBK.out _ HS.out).mono ?_
        rintro e w2 ⟨rfl, hw2⟩
        go_wp2
        go_ret2
        unfold Put
        rw [HE.out.1, HE.out.2.1, HE.out.2.2, HJ.out]
        exact ⟨rfl, hw2.1, HT.out.trans (hw2.2.mono (fun _ _ h => .inl h))⟩

/-- the bounds after k calls -/
structure Q.upto (s : Q) (k : Nat) : Prop where
  m0 : s.m = 0 ∨ 1048576 ≤ s.m
  m1 : s.m ≤ 1200000 + 200000 * k
  j0 : 0 ≤ s.j
  j1 : s.j ≤ k
  a0 : 0 ≤ s.a
  a1 : s.a ≤ 65535
  r0 : 0 ≤ s.r
  r1 : s.r ≤ 1
theorem Q.upto.ok {s : Q} {k : Nat} (h : s.upto k) (hk : k ≤ 1000) : s.ok :=
  ⟨by have := h.m0; omega, by have := h.m1; omega, h.j0, by have := h.j1; omega, h.a0, h.a1, h.r0, h.r1⟩
def zero : Q := ⟨0, 0, 0, 0⟩
theorem zero_upto : zero.upto 0 := ⟨.inl rfl, by simp [zero], by simp [zero], by simp [zero], by simp [zero], by simp [zero], by simp [zero], by simp [zero]⟩
theorem near_bd (s : Q) (n : Int) (h : nearB s (nearv s n) = true) : s.m - 3000 ≤ nearv s n ∧ nearv s n ≤ s.m + 3000 := by simpa [nearB] using h
theorem put_upto {s : Q} {k : Nat} (n : Int) (h : s.upto k) (hk : k ≤ 1000) (hn0 : 0 ≤ n) (hn1 : n ≤ 65535) : (put s n).upto (k + 1) := by
  obtain ⟨m0, m1, j0, j1, a0, a1, r0, r1⟩ := h
  unfold put
  split
  · refine ⟨.inr ?_, ?_, j0, ?_, a0, a1, ?_, ?_⟩ <;> simp only [believed] <;> omega
  · split
    · rename_i h1 h2
      have h3 := near_bd s n h2
      refine ⟨.inr ?_, ?_, j0, ?_, a0, a1, ?_, ?_⟩ <;> simp only [believed] <;> omega
    · split
      · rename_i h1 h2 h3
        have h4 : (followed s n).r < 2 := by simpa [far2] using h3
        refine ⟨m0, by show s.m ≤ _; omega, j0, by show s.j ≤ _; omega, ?_, ?_, ?_, by omega⟩
        · simp only [followed]; omega
        · simp only [followed]; omega
        · simp only [followed]; split <;> omega
      · refine ⟨.inr ?_, ?_, ?_, ?_, ?_, ?_, ?_, ?_⟩ <;> simp only [jumped, believed, followed, leap] <;> omega

theorem put_first (n : Int) : putAt zero n = 1048576 + n ∧ putOk zero n = true ∧ put zero n = ⟨max 0 (1048576 + n), 0, 0, 0⟩ := by simp [putAt, putOk, put, zero, believed]
end Go.Proofs.Ytgppddmfdhpaiaa.ext
