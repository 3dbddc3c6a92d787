/-
  slices.Contains over whole numbers; slices.ContainsFunc over orders.
-/
import Derived.Test.YtfdmgloimibioaaRepPli
import Derived.Test.YtfdmgloimibioaaNckPairs
namespace Go.Proofs.Ytfdmgloimibioaa.rep
open Go.RowKit mem
set_option linter.unusedVariables false

def hasB (z : Nat → Int) : Nat → Int → Bool
  | 0, _ => false
  | k + 1, q => hasB z k q || (z k == q)
theorem hasB_true (z : Nat → Int) (q : Int) (k n : Nat) (hk : k < n) (h : z k = q) : hasB z n q = true := by
  induction n with
  | zero => omega
  | succ n ih =>
    unfold hasB
    by_cases e : k = n
    · subst e; simp [h]
    · rw [ih (by omega)]; rfl
def RdU (w : World) (a : Option Addr) (n : Nat) (z : Nat → Int) : Prop := n = 0 ∨ ∃ b off, a = some ⟨b, off, none⟩ ∧ b < w.heap.size ∧ ∀ i, i < n → w.cell? ⟨b, off + i, none⟩ = some (.int .u32 (z i))

theorem index (a : Option Addr) (n c : Nat) (z : Nat → Int) (q : Int) (w : World) (h : RdU w a n z) (hn : n ≤ 1000) :
    Calls Try.prog 53 #[.slice a n c, .int .u32 q] w fun e w' => ∃ r : Int, e = .returned (.int .i64 r) ∧ decide (0 ≤ r) = hasB z n q ∧ w = w' := by
  have HC := Lib.hid h
  have hnm : n ≤ maxLen := by unfold maxLen; omega
  clear h
  go_enter Try.func53, Try.ntmps53
  go_wp2_with fail
  go_loop [8] (fun i => ∃ k : Nat, k ≤ n ∧ i = .int .i64 k ∧ hasB z k q = false) (fun i => n - (intOf i).toNat)
  case atStart => exact ⟨0, Nat.zero_le _, rfl, rfl⟩
  case round =>
    obtain ⟨k, hk, rfl, hno⟩ := hrel
    by_cases hlt : k < n
    · obtain ⟨b, off, rfl, hb, hc⟩ := HC.out.resolve_left (by omega)
      have d0 := hc k hlt
      have hst : Hid (hasB z (k + 1) q = (hasB z k q || (z k == q))) := Lib.hid rfl
      have HT := Lib.hid (hasB_true z q k n hlt)
      have HNO := Lib.hid hno
      clear hb hc hno
      generalize z k = x at *
      by_cases he : x = q
      · subst he
        go_wp2
        go_ret
        exact ⟨_, rfl, by rw [HT.out (by trivial)]; simp, rfl⟩
      · have hq : (q == x) = false := by simpa using fun h => he h.symm
        have hq2 : (x == q) = false := by simpa using he
        have hno2 : Hid (hasB z (k + 1) q = false) := Lib.hid (by rw [hst.out, HNO.out, hq2]; rfl)
        clear he hst HT HNO
        go_wp2
        go_round
        case rel => exact ⟨k + 1, by omega, by go_num, hno2.out⟩
        case measure => simp [intOf]; omega
    · obtain rfl : k = n := by omega
      have HNO := Lib.hid hno
      clear hno hlt hk
      go_wp2
      go_ret
      exact ⟨_, rfl, by rw [HNO.out]; rfl, rfl⟩

theorem contains (a : Option Addr) (n c : Nat) (z : Nat → Int) (q : Int) (w : World) (h : RdU w a n z) (hn : n ≤ 1000) :
    Calls Try.prog 50 #[.slice a n c, .int .u32 q] w fun e w' => e = .returned (.bool (hasB z n q)) ∧ w = w' := by
  have HI := Lib.hid (index a n c z q w h hn)
  clear h
  go_enter Try.func50, Try.ntmps50
  go_wp2_with fail
  refine HI.out.mono ?_
  rintro e w1 ⟨r, rfl, hr, rfl⟩
  have HR := Lib.hid hr
  clear hr
  go_wp2
  go_ret
  rw [HR.out]
  exact ⟨rfl, rfl⟩

/-- an order -/
def RdO (w : World) (a : Option Addr) (n : Nat) (z : Nat → Int) (y : Nat → Int) : Prop := n = 0 ∨ ∃ b off, a = some ⟨b, off, none⟩ ∧ b < w.heap.size ∧ ∀ i, i < n → w.cell? ⟨b, off + i * 2, none⟩ = some (.int .u32 (z i)) ∧ w.cell? ⟨b, off + i * 2 + 1, none⟩ = some (.int .u8 (y i))

abbrev isV (ps : Nat) : Value := .func (Fn.func 49) #[] #[.pointer (some ⟨ps, 0, none⟩)]
theorem isC (z y q : Int) (ps : Nat) (w : World) (hps : ps < w.heap.size) (hq : w.cell? ⟨ps, 0, none⟩ = some (.int .u32 q)) :
    Calls Try.prog 49 #[.agg #[.int .u32 z, .int .u8 y], .pointer (some ⟨ps, 0, none⟩)] w fun e w' => e = .returned (.bool (z == q)) ∧ New w w' := by
  go_enter Try.func49, Try.ntmps49
  go_wp2
  go_ret
  exact ⟨rfl, (Turns.refl _ _).alloc _⟩
theorem indexF (a : Option Addr) (n c : Nat) (z y : Nat → Int) (q : Int) (ps : Nat) (w : World) (h : RdO w a n z y) (hn : n ≤ 1000) (hps : ps < w.heap.size) (hq : w.cell? ⟨ps, 0, none⟩ = some (.int .u32 q)) :
    Calls Try.prog 52 #[.slice a n c, isV ps] w fun e w' => ∃ r : Int, e = .returned (.int .i64 r) ∧ decide (0 ≤ r) = hasB z n q ∧ New w w' := by
  have HC := Lib.hid h
  have hnm : n ≤ maxLen := by unfold maxLen; omega
  clear h
  go_enter Try.func52, Try.ntmps52
  go_wp2_with fail
  go_loopw [8] (fun i wr => ∃ k : Nat, k ≤ n ∧ i = .int .i64 k ∧ hasB z k q = false ∧ New w wr) (fun i _ => n - (intOf i).toNat)
  case atStart => exact ⟨0, Nat.zero_le _, rfl, rfl, Turns.refl _ _⟩
  case round =>
    obtain ⟨k, hk, rfl, hno, hnw⟩ := hrel
    by_cases hlt : k < n
    · obtain ⟨b, off, rfl, hb, hc⟩ := HC.out.resolve_left (by omega)
      have d0 := (hnw.cell (a := ⟨b, off + k * 2, none⟩) hb (fun h => h)).trans (hc k hlt).1
      have d1 := (hnw.cell (a := ⟨b, off + k * 2 + 1, none⟩) hb (fun h => h)).trans (hc k hlt).2
      have HI := Lib.hid (isC (z k) (y k) q ps wr (Nat.lt_of_lt_of_le hps hnw.size) ((hnw.cell (a := ⟨ps, 0, none⟩) hps (fun h => h)).trans hq))
      have hst : Hid (hasB z (k + 1) q = (hasB z k q || (z k == q))) := Lib.hid rfl
      have HT := Lib.hid (hasB_true z q k n hlt)
      have HNO := Lib.hid hno
      have HNW := Lib.hid hnw
      clear hb hc hno hnw hq
      generalize z k = x at *
      generalize y k = yk at *
      by_cases he : x = q
      · have hq : (x == q) = true := by simpa using he
        have HTT := Lib.hid (HT.out he)
        rw [hq] at HI
        clear he hq hst HT HNO
        go_wp2_with fail
        refine HI.out.mono ?_
        rintro e w2 ⟨rfl, hn2⟩
        have HN2 := Lib.hid (HNW.out.trans (hn2.mono (fun _ _ h => h.elim)))
        clear hn2
        go_wp2
        go_ret
        exact ⟨_, rfl, by rw [HTT.out]; simp, HN2.out⟩
      · have hq2 : (x == q) = false := by simpa using he
        have hno2 : Hid (hasB z (k + 1) q = false) := Lib.hid (by rw [hst.out, HNO.out, hq2]; rfl)
        rw [hq2] at HI
        clear he hst HT HNO hq2
        go_wp2_with fail
        refine HI.out.mono ?_
        rintro e w2 ⟨rfl, hn2⟩
        have HN2 := Lib.hid (HNW.out.trans (hn2.mono (fun _ _ h => h.elim)))
        clear hn2
        go_wp2_with fail
        go_roundw
        case rel => exact ⟨k + 1, by omega, by go_num, hno2.out, HN2.out⟩
        case measure => simp [intOf]; omega
    · obtain rfl : k = n := by omega
      have HNO := Lib.hid (And.intro hno hnw)
      clear hno hlt hk hnw
      go_wp2
      go_ret
      exact ⟨_, rfl, by rw [HNO.out.1]; rfl, HNO.out.2⟩

theorem containsF (a : Option Addr) (n c : Nat) (z y : Nat → Int) (q : Int) (ps : Nat) (w : World) (h : RdO w a n z y) (hn : n ≤ 1000) (hps : ps < w.heap.size) (hq : w.cell? ⟨ps, 0, none⟩ = some (.int .u32 q)) :
    Calls Try.prog 48 #[.slice a n c, isV ps] w fun e w' => e = .returned (.bool (hasB z n q)) ∧ New w w' := by
  have HI := Lib.hid (indexF a n c z y q ps w h hn hps hq)
  clear h hq
  go_enter Try.func48, Try.ntmps48
  go_wp2_with fail
  refine HI.out.mono ?_
  rintro e w1 ⟨r, rfl, hr, hn1⟩
  have HR := Lib.hid hr
  have HN := Lib.hid hn1
  clear hr hn1
  go_wp2
  go_ret
  rw [HR.out]
  exact ⟨rfl, HN.out⟩
end Go.Proofs.Ytfdmgloimibioaa.rep
