/-
  The reference of layer 23: bad, good.
-/
import Derived.Test.YtfhbcdjbfjoknaaLadNew2
import Derived.ChangeAlike
namespace Go.Proofs.Ytfhbcdjbfjoknaa.lad
open Go.RowKit mem
open ints (IE IT ST infoI)
set_option linter.unusedVariables false

abbrev RL : TypeId := 32
abbrev rl (d u sp : Int) (nv : Value) (at' most mv : Int) (rv : Value) : Array Value := #[.int .i64 d, .int .i64 u, .int .i64 sp, nv, .int .i64 at', .int .i64 most, .int .i64 mv, rv]
def rbadB (N : List Int) (at' : Nat) (rate : Int) : Bool := decide (0 < at') && decide (rate < N.getD at' 0)
theorem rbad (d u sp most mv rate : Int) (ao : Option Addr) (cc at' : Nat) (N : List Int) (rv : Value) (w : World) (hv : Vw w ao N) (hat : at' < N.length) (hl : N.length ≤ 1048576) :
    Calls Try.prog 52 #[.agg (rl d u sp (.slice ao N.length cc) at' most mv rv), .int .i64 rate] w fun e w' => e = .returned (.bool (rbadB N at' rate)) ∧ New w w' := by
  obtain ⟨g, o, rfl, hg, hc⟩ := hv.resolve_left (by intro e; simp [e] at hat)
  have x0 := hc at' hat
  have hlt : (at' : Int) < (N.length : Int) := by omega
  have hgd : N.getD at' 0 = N[at'] := by simp [hat]
  have HB : Hid (rbadB N at' rate = (decide (0 < at') && decide (rate < N[at']))) := Lib.hid (by unfold rbadB; rw [hgd])
  rw [HB.out]
  clear hc hgd HB hv
  generalize N[at'] = y at *
  have HN : Hid (∀ o, New w (w.alloc o)) := Lib.hid (fun o => (Turns.refl _ _).alloc _)
  by_cases h0 : 0 < at'
  · have d1 : decide (0 < (at' : Int)) = true := decide_eq_true (by omega)
    have d2 : decide (0 < at') = true := decide_eq_true h0
    go_enter Try.func52, Try.ntmps52
    go_wp2
    go_ret
    exact ⟨by simp [d2], HN.out _⟩
  · have d1 : decide (0 < (at' : Int)) = false := decide_eq_false (by omega)
    have d2 : decide (0 < at') = false := decide_eq_false h0
    go_enter Try.func52, Try.ntmps52
    go_wp2
    go_ret
    exact ⟨by simp [d2], HN.out _⟩
def rgoodB (N : List Int) (sp most : Int) (at' : Nat) (rate : Int) : Bool := !rbadB N at' rate && decide ((at' : Int) < most) && decide (N.getD (at' + 1) 0 + N.getD (at' + 1) 0 / 10 * sp ≤ rate)
set_option maxHeartbeats 1000000 in
theorem rgood (d u sp most mv rate : Int) (ao : Option Addr) (cc at' : Nat) (N : List Int) (rv : Value) (w : World) (hv : Vw w ao N) (hat : at' < N.length) (hm : most < N.length) (hl : N.length ≤ 1048576) (hb : ∀ x ∈ N, 0 ≤ x ∧ x ≤ 1099511627776) (s0 : 0 ≤ sp) (s1 : sp ≤ 100) :
    Calls Try.prog 51 #[.agg (rl d u sp (.slice ao N.length cc) at' most mv rv), .int .i64 rate] w fun e w' => e = .returned (.bool (rgoodB N sp most at' rate)) ∧ New w w' := by
  have HR := Lib.hid (fun W (N' : New w W) => rbad d u sp most mv rate ao cc at' N rv W (hv.later N') hat hl)
  have HN : Hid (∀ o, New w (w.alloc o)) := Lib.hid (fun o => (Turns.refl _ _).alloc _)
  obtain ⟨g, o, rfl, hg, hc⟩ := hv.resolve_left (by intro e; simp [e] at hat)
  have hlt : (at' : Int) < (N.length : Int) := by omega
  have HBK : Hid (Blk (w.alloc (.cells (rl d u sp (.slice (some ⟨g, o, none⟩) N.length cc) at' most mv rv) RL)) w.heap.size (rl d u sp (.slice (some ⟨g, o, none⟩) N.length cc) at' most mv rv) RL) := Lib.hid (Blk.new _ _ _)
  have HGB : Hid (rgoodB N sp most at' rate = (!rbadB N at' rate && decide ((at' : Int) < most) && decide (N.getD (at' + 1) 0 + N.getD (at' + 1) 0 / 10 * sp ≤ rate))) := Lib.hid rfl
  rw [HGB.out]
  clear HGB hv
  have HY : Hid ((at' : Int) < most → ∃ y, N.getD (at' + 1) 0 = y ∧ w.cell? ⟨g, o + (at' + 1), none⟩ = some (.int .i64 y) ∧ 0 ≤ y ∧ y ≤ 1099511627776 ∧ (at' : Int) + 1 < (N.length : Int)) := Lib.hid (fun h => by
    have h1 : at' + 1 < N.length := by omega
    have hx := hb _ (List.getElem_mem h1)
    exact ⟨N[at' + 1], by simp [h1], hc _ h1, hx.1, hx.2, by omega⟩)
  clear hc hb
  generalize N.getD (at' + 1) 0 = y at *
  cases hbb : rbadB N at' rate
  · rw [hbb] at HR
    clear hbb
    by_cases hmo : (at' : Int) < most
    · have d1 : decide (most ≤ (at' : Int)) = false := decide_eq_false (by omega)
      obtain ⟨y', hyy, hy, y0, y1, hlt1⟩ := HY.out hmo
      subst hyy
      have D2 : Hid (decide ((at' : Int) < most) = true) := Lib.hid (decide_eq_true hmo)
      rw [D2.out]
      clear HY hmo
      have hlt2 : IntKind.i64.wrap ((at' : Int) + 1) = (at' : Int) + 1 := IntWalk.i64_in _ (by omega)
      obtain ⟨t, ht⟩ : ∃ t, y / 10 = t := ⟨_, rfl⟩
      have ht0 : 0 ≤ t ∧ t ≤ 109951162777 := by omega
      have hp : t * sp ≤ 109951162777 * 100 := Int.mul_le_mul ht0.2 s1 s0 (by omega)
      have hp0 : 0 ≤ t * sp := Int.mul_nonneg ht0.1 s0
      have e2 : y.tdiv 10 = t := by rw [Int.tdiv_eq_ediv_of_nonneg y0]; exact ht
      rw [ht]
      obtain ⟨q, hq⟩ : ∃ q, t * sp = q := ⟨_, rfl⟩
      rw [hq]
      have e4 : IntKind.i64.wrap (t * sp) = q := by rw [hq]; exact IntWalk.i64_in _ (by omega)
      have e5 : IntKind.i64.wrap (y + q) = y + q := IntWalk.i64_in _ (by omega)
      have e3 : IntKind.i64.wrap t = t := IntWalk.i64_in _ (by omega)
      obtain ⟨bb, hbb⟩ : ∃ bb, decide (y + q ≤ rate) = bb := ⟨_, rfl⟩
      rw [hbb]
      clear ht hq hp hp0 ht0
      go_enter Try.func51, Try.ntmps51
      go_wp2_with fail
      refine (HR.out _ (HN.out _)).mono ?_
      rintro e w1 ⟨rfl, n1⟩
      have hbk := n1.blk HBK.out (fun h => h)
      have x2 := hbk.cell 2
      have x3 := hbk.cell 3
      have x4 := hbk.cell 4
      have x5 := hbk.cell 5
      have hy1 := (((HN.out _).trans (n1.mono (fun _ _ h => h.elim))).cell (a := ⟨g, o + (at' + 1), none⟩) hg (fun h => h)).trans hy
      have HN1 := Lib.hid ((HN.out _).trans (n1.mono (fun _ _ h => h.elim)))
      clear HBK n1 hbk hy HR
      go_wp2
      go_ret
      exact ⟨by simp, HN1.out⟩
    · have d1 : decide (most ≤ (at' : Int)) = true := decide_eq_true (by omega)
      have D2 : Hid (decide ((at' : Int) < most) = false) := Lib.hid (decide_eq_false hmo)
      rw [D2.out]
      clear HY hmo
      go_enter Try.func51, Try.ntmps51
      go_wp2_with fail
      refine (HR.out _ (HN.out _)).mono ?_
      rintro e w1 ⟨rfl, n1⟩
      have hbk := n1.blk HBK.out (fun h => h)
      have x4 := hbk.cell 4
      have x5 := hbk.cell 5
      have HN1 := Lib.hid ((HN.out _).trans (n1.mono (fun _ _ h => h.elim)))
      clear HBK n1 hbk HR
      go_wp2
      go_ret
      exact ⟨by simp, HN1.out⟩
  · rw [hbb] at HR
    clear hbb HY
    go_enter Try.func51, Try.ntmps51
    go_wp2_with fail
    refine (HR.out _ (HN.out _)).mono ?_
    rintro e w1 ⟨rfl, n1⟩
    have HN1 := Lib.hid ((HN.out _).trans (n1.mono (fun _ _ h => h.elim)))
    clear HBK n1 HR
    go_wp2
    go_ret
    exact ⟨by simp, HN1.out⟩
end Go.Proofs.Ytfhbcdjbfjoknaa.lad
