/-
  ledger: Fate's words; a book made here; 'awake' of layer 25; LedgerWords.
-/
import Derived.Test.YtnpaajmcahlloaaLedEnd
namespace Go.Proofs.Ytnpaajmcahlloaa.led
open Go.RowKit mem
set_option linter.unusedVariables false

def word (f : Int) : ByteArray :=
  if f = 0 then ⟨#[112, 101, 110, 100, 105, 110, 103]⟩ else if f = 1 then ⟨#[115, 101, 110, 116]⟩ else if f = 2 then ⟨#[100, 114, 111, 112, 112, 101, 100]⟩ else if f = 3 then ⟨#[99, 97, 110, 99, 101, 108, 108, 101, 100]⟩ else ⟨#[110, 111, 32, 102, 97, 116, 101]⟩
theorem string (f : Int) (w : World) :
    Calls Try.prog 17 #[.int .i64 f] w fun e w' => e = .returned (.string (word f)) ∧ w' = w := by
  by_cases h0 : f = 0
  · subst h0
    go_enter Try.func17, Try.ntmps17
    go_wp2
    go_ret
    exact ⟨rfl, rfl⟩
  by_cases h1 : f = 1
  · subst h1
    go_enter Try.func17, Try.ntmps17
    go_wp2
    go_ret
    exact ⟨rfl, rfl⟩
  by_cases h2 : f = 2
  · subst h2
    go_enter Try.func17, Try.ntmps17
    go_wp2
    go_ret
    exact ⟨rfl, rfl⟩
  by_cases h3 : f = 3
  · subst h3
    go_enter Try.func17, Try.ntmps17
    go_wp2
    go_ret
    exact ⟨rfl, rfl⟩
  have HE : Hid (word f = ⟨#[110, 111, 32, 102, 97, 116, 101]⟩) := Lib.hid (by unfold word; rw [if_neg h0, if_neg h1, if_neg h2, if_neg h3])
  have b0 : (f == 0) = false := by simp [h0]
  have b1 : (f == 1) = false := by simp [h1]
  have b2 : (f == 2) = false := by simp [h2]
  have b3 : (f == 3) = false := by simp [h3]
  clear h0 h1 h2 h3
  go_enter Try.func17, Try.ntmps17
  go_wp2
  go_ret
  exact ⟨by rw [HE.out]; rfl, rfl⟩

/-- a book that was made since w -/
structure Own (w w' : World) (p : Nat) (v : Value) (L : List Fr) (i : Nat) : Prop where
  bk : Bk w' p v L i
  n : New w w'
  p0 : w.heap.size ≤ p
  vb : ∀ g, v.ownBlock = some g → w.heap.size ≤ g
theorem Own.lft {w w1 w2 : World} {p : Nat} {v v' : Value} {L L' : List Fr} {i j : Nat} (h : Own w w1 p v L i) (k : Lft w1 w2 p v v' L' j) : Own w w2 p v' L' j :=
  ⟨k.bk, h.n.trans (k.t.mono (fun m _ hm => by
    rcases hm with e | e
    · exact .inr (by rw [e]; exact h.p0)
    · exact .inr (h.vb m e.symm))), h.p0, fun g hg => by
    rcases k.src g hg with e | e
    · exact h.vb g e
    · exact Nat.le_trans h.n.size e⟩
theorem Own.later {w w1 w2 : World} {p : Nat} {v : Value} {L : List Fr} {i : Nat} (h : Own w w1 p v L i) (n : New w1 w2) : Own w w2 p v L i :=
  ⟨h.bk.later n, h.n.trans (n.mono (fun _ _ h => h.elim)), h.p0, h.vb⟩
theorem Own.below {w w1 : World} {p : Nat} {v : Value} {L : List Fr} {i : Nat} (h : Own w w1 p v L i) : Below w.heap.size w w1 := h.n.below (Nat.le_refl _) (fun _ _ h => h.elim)
/-- the zero book -/
theorem zero {w w1 : World} (n : New w w1) : Own w (w1.alloc (.cells #[.slice none 0 0, .int .i64 0, .int .i64 0, .int .i64 0, .int .i64 0, .int .i64 0] BT)) w1.heap.size (.slice none 0 0) [] 0 :=
  ⟨⟨Blk.new _ _ _, Owns.nil _ _, by simp, (fun x hx => by simp at hx), Nat.le_refl _, fun k x hk => by omega⟩, n.alloc _, n.size, fun g hg => by simp [Value.ownBlock] at hg⟩

theorem awake (w : World) :
    Calls Try.prog 7 #[] w fun e w' => e = .returned (.bool true) ∧ New w w' := by
  have HO := Lib.hid (zero (Turns.refl (fun _ => False) w))
  have HS := Lib.hid (fun w => string 1 w)
  have hw1 : word 1 = ⟨#[115, 101, 110, 116]⟩ := rfl
  rw [hw1] at HS
  go_enter Try.func7, Try.ntmps7
  go_upto_region 2 with fail
  refine (show Code.wp _ _ _ _ (w.alloc (.cells #[.slice none 0 0, .int .i64 0, .int .i64 0, .int .i64 0, .int .i64 0, .int .i64 0] BT)) from ?_)
  generalize (w.alloc (.cells #[.slice none 0 0, .int .i64 0, .int .i64 0, .int .i64 0, .int .i64 0, .int .i64 0] BT)) = w1 at *
  generalize w.heap.size = p at *
  go_wp2_with fail
  refine (accept p _ [] 0 0 w1 HO.out.bk (by decide) (by decide) (by decide)).mono ?_
  rintro e w2 ⟨v2, rfl, l2⟩
  have HO2 := Lib.hid (HO.out.lft l2)
  clear l2 HO hw1
  go_wp2_with fail
  refine (end_ p v2 _ 0 0 1 1 w2 HO2.out.bk (by decide) (by decide)).mono ?_
  rintro e w3 ⟨rfl, j3, l3⟩
  have HO3 := Lib.hid (HO2.out.lft l3)
  clear l3 HO2
  go_wp2_with fail
  refine (end_ p v2 _ j3 0 2 1 w3 HO3.out.bk (by decide) (by decide)).mono ?_
  rintro e w4 ⟨rfl, j4, l4⟩
  have HO4 := Lib.hid (HO3.out.lft l4)
  clear l4 HO3
  go_wp2_with fail
  refine (len_ p v2 _ j4 w4 HO4.out.bk).mono ?_
  rintro e w5 ⟨rfl, rfl⟩
  go_wp2_with fail
  refine (HS.out w5).mono ?_
  rintro e w6 ⟨rfl, rfl⟩
  go_wp2_with fail
  go_ret
  exact ⟨rfl, HO4.out.n⟩

theorem cnt_one (n : Int) (h : n ≠ 0) : cntF n [⟨5, 0, 0⟩] = 0 := by
  unfold cntF
  split
  · unfold cnt
    rw [List.countP_cons]
    simp
    omega
  · rfl
theorem words_law (n : Int) (w : World) (h0 : -9223372036854775808 ≤ n) (h1 : n ≤ 9223372036854775807) :
    Calls Try.prog 4 #[.int .i64 n] w fun e w' => e = .returned (.bool true) ∧ Below w.heap.size w w' := by
  have HA := Lib.hid (awake w)
  have HS := Lib.hid (fun w => string n w)
  have hn : n = 0 ∨ n = 1 ∨ n = 2 ∨ n = 3 ∨ (n ≠ 0 ∧ n ≠ 1 ∧ n ≠ 2 ∧ n ≠ 3) := by omega
  rcases hn with rfl | rfl | rfl | rfl | ⟨h0, h1, h2, h3⟩
  · have HW : Hid (word 0 = ⟨#[112, 101, 110, 100, 105, 110, 103]⟩ ∧ cntF 0 [⟨5, 0, 0⟩] = 1) := Lib.hid ⟨rfl, rfl⟩
    rw [HW.out.1] at HS
    go_enter Try.func4, Try.ntmps4
    go_wp2_with fail
    refine HA.out.mono ?_
    rintro e w1 ⟨rfl, n1⟩
    have HO := Lib.hid (zero n1)
    clear n1 HA
    go_upto_region 4 with fail
    refine (show Code.wp _ _ _ _ (w1.alloc (.cells #[.slice none 0 0, .int .i64 0, .int .i64 0, .int .i64 0, .int .i64 0, .int .i64 0] BT)) from ?_)
    generalize (w1.alloc (.cells #[.slice none 0 0, .int .i64 0, .int .i64 0, .int .i64 0, .int .i64 0, .int .i64 0] BT)) = w2 at *
    generalize w1.heap.size = p at *
    go_wp2_with fail
    refine (accept p _ [] 0 5 w2 HO.out.bk (by decide) (by decide) (by decide)).mono ?_
    rintro e w3 ⟨v3, rfl, l3⟩
    have HO3 := Lib.hid (HO.out.lft l3)
    clear l3 HO
    go_wp2_with fail
    refine (HS.out w3).mono ?_
    rintro e w4 ⟨rfl, rfl⟩
    have HC := Lib.hid (count p v3 _ 0 (0) w4 HO3.out.bk)
    go_wp2_with fail
    refine HC.out.mono ?_
    rintro e w5 ⟨rfl, rfl⟩
    rw [show ([] ++ [⟨5, 0, 0⟩] : List Fr) = [⟨5, 0, 0⟩] from rfl, HW.out.2]
    go_wp2_with fail
    go_ret
    exact ⟨rfl, HO3.out.below⟩
  · have HW : Hid (word 1 = ⟨#[115, 101, 110, 116]⟩ ∧ cntF 1 [⟨5, 0, 0⟩] = 0) := Lib.hid ⟨rfl, rfl⟩
    rw [HW.out.1] at HS
    go_enter Try.func4, Try.ntmps4
    go_wp2_with fail
    refine HA.out.mono ?_
    rintro e w1 ⟨rfl, n1⟩
    have HO := Lib.hid (zero n1)
    clear n1 HA
    go_upto_region 4 with fail
    refine (show Code.wp _ _ _ _ (w1.alloc (.cells #[.slice none 0 0, .int .i64 0, .int .i64 0, .int .i64 0, .int .i64 0, .int .i64 0] BT)) from ?_)
    generalize (w1.alloc (.cells #[.slice none 0 0, .int .i64 0, .int .i64 0, .int .i64 0, .int .i64 0, .int .i64 0] BT)) = w2 at *
    generalize w1.heap.size = p at *
    go_wp2_with fail
    refine (accept p _ [] 0 5 w2 HO.out.bk (by decide) (by decide) (by decide)).mono ?_
    rintro e w3 ⟨v3, rfl, l3⟩
    have HO3 := Lib.hid (HO.out.lft l3)
    clear l3 HO
    go_wp2_with fail
    refine (HS.out w3).mono ?_
    rintro e w4 ⟨rfl, rfl⟩
    have HC := Lib.hid (count p v3 _ 0 (1) w4 HO3.out.bk)
    go_wp2_with fail
    refine HC.out.mono ?_
    rintro e w5 ⟨rfl, rfl⟩
    rw [show ([] ++ [⟨5, 0, 0⟩] : List Fr) = [⟨5, 0, 0⟩] from rfl, HW.out.2]
    go_wp2_with fail
    go_ret
    exact ⟨rfl, HO3.out.below⟩
  · have HW : Hid (word 2 = ⟨#[100, 114, 111, 112, 112, 101, 100]⟩ ∧ cntF 2 [⟨5, 0, 0⟩] = 0) := Lib.hid ⟨rfl, rfl⟩
    rw [HW.out.1] at HS
    go_enter Try.func4, Try.ntmps4
    go_wp2_with fail
    refine HA.out.mono ?_
    rintro e w1 ⟨rfl, n1⟩
    have HO := Lib.hid (zero n1)
    clear n1 HA
    go_upto_region 4 with fail
    refine (show Code.wp _ _ _ _ (w1.alloc (.cells #[.slice none 0 0, .int .i64 0, .int .i64 0, .int .i64 0, .int .i64 0, .int .i64 0] BT)) from ?_)
    generalize (w1.alloc (.cells #[.slice none 0 0, .int .i64 0, .int .i64 0, .int .i64 0, .int .i64 0, .int .i64 0] BT)) = w2 at *
    generalize w1.heap.size = p at *
    go_wp2_with fail
    refine (accept p _ [] 0 5 w2 HO.out.bk (by decide) (by decide) (by decide)).mono ?_
    rintro e w3 ⟨v3, rfl, l3⟩
    have HO3 := Lib.hid (HO.out.lft l3)
    clear l3 HO
    go_wp2_with fail
    refine (HS.out w3).mono ?_
    rintro e w4 ⟨rfl, rfl⟩
    have HC := Lib.hid (count p v3 _ 0 (2) w4 HO3.out.bk)
    go_wp2_with fail
    refine HC.out.mono ?_
    rintro e w5 ⟨rfl, rfl⟩
    rw [show ([] ++ [⟨5, 0, 0⟩] : List Fr) = [⟨5, 0, 0⟩] from rfl, HW.out.2]
    go_wp2_with fail
    go_ret
    exact ⟨rfl, HO3.out.below⟩
  · have HW : Hid (word 3 = ⟨#[99, 97, 110, 99, 101, 108, 108, 101, 100]⟩ ∧ cntF 3 [⟨5, 0, 0⟩] = 0) := Lib.hid ⟨rfl, rfl⟩
    rw [HW.out.1] at HS
    go_enter Try.func4, Try.ntmps4
    go_wp2_with fail
    refine HA.out.mono ?_
    rintro e w1 ⟨rfl, n1⟩
    have HO := Lib.hid (zero n1)
    clear n1 HA
    go_upto_region 4 with fail
    refine (show Code.wp _ _ _ _ (w1.alloc (.cells #[.slice none 0 0, .int .i64 0, .int .i64 0, .int .i64 0, .int .i64 0, .int .i64 0] BT)) from ?_)
    generalize (w1.alloc (.cells #[.slice none 0 0, .int .i64 0, .int .i64 0, .int .i64 0, .int .i64 0, .int .i64 0] BT)) = w2 at *
    generalize w1.heap.size = p at *
    go_wp2_with fail
    refine (accept p _ [] 0 5 w2 HO.out.bk (by decide) (by decide) (by decide)).mono ?_
    rintro e w3 ⟨v3, rfl, l3⟩
    have HO3 := Lib.hid (HO.out.lft l3)
    clear l3 HO
    go_wp2_with fail
    refine (HS.out w3).mono ?_
    rintro e w4 ⟨rfl, rfl⟩
    have HC := Lib.hid (count p v3 _ 0 (3) w4 HO3.out.bk)
    go_wp2_with fail
    refine HC.out.mono ?_
    rintro e w5 ⟨rfl, rfl⟩
    rw [show ([] ++ [⟨5, 0, 0⟩] : List Fr) = [⟨5, 0, 0⟩] from rfl, HW.out.2]
    go_wp2_with fail
    go_ret
    exact ⟨rfl, HO3.out.below⟩
  · have HW : Hid (word n = ⟨#[110, 111, 32, 102, 97, 116, 101]⟩ ∧ cntF n [⟨5, 0, 0⟩] = 0) := Lib.hid ⟨by unfold word; rw [if_neg h0, if_neg h1, if_neg h2, if_neg h3], cnt_one n h0⟩
    have b0 : (n == 0) = false := by simp [h0]
    have b1 : (n == 1) = false := by simp [h1]
    have b2 : (n == 2) = false := by simp [h2]
    have b3 : (n == 3) = false := by simp [h3]
    clear h0 h1 h2 h3
    rw [HW.out.1] at HS
    go_enter Try.func4, Try.ntmps4
    go_wp2_with fail
    refine HA.out.mono ?_
    rintro e w1 ⟨rfl, n1⟩
    have HO := Lib.hid (zero n1)
    clear n1 HA
    go_upto_region 4 with fail
    refine (show Code.wp _ _ _ _ (w1.alloc (.cells #[.slice none 0 0, .int .i64 0, .int .i64 0, .int .i64 0, .int .i64 0, .int .i64 0] BT)) from ?_)
    generalize (w1.alloc (.cells #[.slice none 0 0, .int .i64 0, .int .i64 0, .int .i64 0, .int .i64 0, .int .i64 0] BT)) = w2 at *
    generalize w1.heap.size = p at *
    go_wp2_with fail
    refine (accept p _ [] 0 5 w2 HO.out.bk (by decide) (by decide) (by decide)).mono ?_
    rintro e w3 ⟨v3, rfl, l3⟩
    have HO3 := Lib.hid (HO.out.lft l3)
    clear l3 HO
    go_wp2_with fail
    refine (HS.out w3).mono ?_
    rintro e w4 ⟨rfl, rfl⟩
    have HC := Lib.hid (count p v3 _ 0 n w4 HO3.out.bk)
    go_wp2_with fail
    refine HC.out.mono ?_
    rintro e w5 ⟨rfl, rfl⟩
    rw [show ([] ++ [⟨5, 0, 0⟩] : List Fr) = [⟨5, 0, 0⟩] from rfl, HW.out.2]
    go_wp2_with fail
    go_ret
    exact ⟨rfl, HO3.out.below⟩
end Go.Proofs.Ytnpaajmcahlloaa.led
