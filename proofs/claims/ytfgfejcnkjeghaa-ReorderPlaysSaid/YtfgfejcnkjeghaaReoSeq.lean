/-
  reorder.Buffer in memory; the calls that only read; slices.BinarySearchFunc at its things; find.
-/
import Derived.Test.YtfgfejcnkjeghaaRows
import Derived.Test.YtfgfejcnkjeghaaReoPure
import Derived.Test.YtfgfejcnkjeghaaPuts
import Derived.Handy
import Derived.Outline
import Derived.Lib.Hide
import Derived.RegionTactic
import Derived.Deep.RegionHeld3
import Derived.Deep.QuietTactic
import Derived.BigQuiet
import Derived.Deep.DeepCutAuto
import Derived.ArgAppend
import Derived.IntWalk
namespace Go.Proofs.Ytfgfejcnkjeghaa.reo
open Go.RowKit mem
set_option linter.unusedVariables false

abbrev New (w w' : World) : Prop := Turns (fun _ => False) w w'
abbrev PT : TypeId := 55
abbrev ST : TypeId := 45
abbrev BT : TypeId := 68
theorem infoT : (Try.prog.info? PT).map (fun i => (i.zero, i.size, i.bytes)) = some (some (.agg #[.int .i64 0, .string ⟨#[]⟩, .int .i64 0]), 3, 32) := by kernel_rfl
def bcells (b : B) (v : Value) : List Value := [.int .i64 b.most, .int .i64 b.wait, v, .int .i64 b.next, .bool b.begun, .int .i64 b.lost]

/-- the buffer b in block p, its things in v -/
structure Bs (w : World) (p : Nat) (v : Value) (b : B) : Prop where
  blk : Blk w p (bcells b v).toArray BT
  own : Owns TE PT w v b.L
  ne : v.ownBlock ≠ some p
section
variable {w : World} {p : Nat} {v : Value} {b : B} (h : Bs w p v b)
include h
theorem Bs.c0 : w.cell? ⟨p, 0, none⟩ = some (.int .i64 b.most) := h.blk.cell 0
theorem Bs.c1 : w.cell? ⟨p, 1, none⟩ = some (.int .i64 b.wait) := h.blk.cell 1
theorem Bs.c2 : w.cell? ⟨p, 2, none⟩ = some v := h.blk.cell 2
theorem Bs.c3 : w.cell? ⟨p, 3, none⟩ = some (.int .i64 b.next) := h.blk.cell 3
theorem Bs.c4 : w.cell? ⟨p, 4, none⟩ = some (.bool b.begun) := h.blk.cell 4
theorem Bs.c5 : w.cell? ⟨p, 5, none⟩ = some (.int .i64 b.lost) := h.blk.cell 5
theorem Bs.f (i : Nat) : w.frozen? ⟨p, i, none⟩ = false := h.blk.free i
theorem Bs.lt : p < w.heap.size := h.blk.lt
theorem Bs.turns {S : Nat → Prop} {w' : World} (ht : Turns S w w') (hp : ¬ S p) (hv : ∀ g, v.ownBlock = some g → ¬ S g) : Bs w' p v b := ⟨ht.blk h.blk hp, h.own.turns ht hv, h.ne⟩
theorem Bs.later {w' : World} (n : New w w') : Bs w' p v b := h.turns n (fun h => h) (fun _ _ h => h)
theorem Bs.at_ : ∃ (ao : Option Addr) (c : Nat), v = .slice ao b.L.length c ∧ b.L.length ≤ c ∧ (∀ (k : Nat) (x : Th), b.L[k]? = some x → ∃ g, ao = some ⟨g, 0, none⟩ ∧ v.ownBlock = some g ∧ g < w.heap.size ∧ w.cell? ⟨g, k * 3, none⟩ = some (.int .i64 x.at_) ∧ w.cell? ⟨g, k * 3 + 1, none⟩ = some (.string x.tx) ∧ w.cell? ⟨g, k * 3 + 2, none⟩ = some (.int .i64 x.tick)) := by
  obtain ⟨ao, c, hv, hc, hr, ho⟩ := h.own.form
  refine ⟨ao, c, hv, hc, fun k x hx => ?_⟩
  rcases hr with e | ⟨g, e, hg, hcell⟩
  · rw [e] at hx; simp at hx
  · exact ⟨g, e, ho g e, hg, hcell k x hx 0 _ rfl, hcell k x hx 1 _ rfl, hcell k x hx 2 _ rfl⟩
end

theorem len_ (p : Nat) (v : Value) (b : B) (w : World) (h : Bs w p v b) :
    Calls Try.prog 12 #[.pointer (some ⟨p, 0, none⟩)] w fun e w' => e = .returned (.int .i64 b.L.length) ∧ w' = w := by
  obtain ⟨ao, c, rfl, hc, _⟩ := h.at_
  have h0 := h.c2
  clear h
  go_enter Try.func12, Try.ntmps12
  go_wp2
  go_ret
  exact ⟨rfl, rfl⟩
theorem next_ (p : Nat) (v : Value) (b : B) (w : World) (h : Bs w p v b) :
    Calls Try.prog 11 #[.pointer (some ⟨p, 0, none⟩)] w fun e w' => e = .returned (.tuple #[.int .i64 b.next, .bool b.begun]) ∧ New w w' := by
  have h0 := h.c3
  have h1 := h.c4
  clear h
  go_enter Try.func11, Try.ntmps11
  go_upto_region 1 with fail
  go_region
  all_goals
    go_wp2
    go_ret2
    exact ⟨rfl, (Turns.refl _ _).drew⟩
theorem lost_ (p : Nat) (v : Value) (b : B) (w : World) (h : Bs w p v b) :
    Calls Try.prog 13 #[.pointer (some ⟨p, 0, none⟩)] w fun e w' => e = .returned (.int .i64 b.lost) ∧ w' = w := by
  have h0 := h.c5
  clear h
  go_enter Try.func13, Try.ntmps13
  go_wp2
  go_ret
  exact ⟨rfl, rfl⟩

/-! ### New -/
theorem check (most wait : Int) (w : World) :
    Calls Try.prog 26 #[.agg #[.int .i64 most, .int .i64 wait]] w fun e w' => e = .returned (.int .i64 (if 1 ≤ most ∧ most ≤ 1024 ∧ 0 ≤ wait ∧ wait ≤ 1099511627776 then 0 else 5)) ∧ New w w' := by
  have HN : Hid (New w (w.alloc (.cells #[.int .i64 most, .int .i64 wait] 52))) := Lib.hid ((Turns.refl _ _).alloc _)
  by_cases h1 : most < 1
  · rw [if_neg (by omega)]
    go_enter Try.func26, Try.ntmps26
    go_wp2
    go_ret
    exact ⟨rfl, HN.out⟩
  by_cases h2 : 1024 < most
  · rw [if_neg (by omega)]
    go_enter Try.func26, Try.ntmps26
    go_wp2
    go_ret
    exact ⟨rfl, HN.out⟩
  by_cases h3 : wait < 0
  · rw [if_neg (by omega)]
    go_enter Try.func26, Try.ntmps26
    go_wp2
    go_ret
    exact ⟨rfl, HN.out⟩
  by_cases h4 : 1099511627776 < wait
  · rw [if_neg (by omega)]
    go_enter Try.func26, Try.ntmps26
    go_wp2
    go_ret
    exact ⟨rfl, HN.out⟩
  · rw [if_pos (by omega)]
    go_enter Try.func26, Try.ntmps26
    go_wp2
    go_ret
    exact ⟨rfl, HN.out⟩
def zeroB (most wait : Int) : B := ⟨most, wait, [], 0, false, 0⟩
theorem new_bad (most wait : Int) (w : World) (h : ¬ (1 ≤ most ∧ most ≤ 1024 ∧ 0 ≤ wait ∧ wait ≤ 1099511627776)) :
    Calls Try.prog 17 #[.agg #[.int .i64 most, .int .i64 wait]] w fun e w' => e = .returned (.tuple #[.pointer none, .int .i64 5]) ∧ New w w' := by
  have HC := Lib.hid (fun w => check most wait w)
  rw [if_neg h] at HC
  have HN : Hid (New w (w.alloc (.cells #[.int .i64 most, .int .i64 wait] 52))) := Lib.hid ((Turns.refl _ _).alloc _)
  clear h
  go_enter Try.func17, Try.ntmps17
  go_wp2_with fail
  refine (HC.out _).mono ?_
  rintro e w2 ⟨rfl, n2⟩
  have HN2 := Lib.hid (HN.out.trans (n2.mono (fun _ _ h => h.elim)))
  clear n2
  go_wp2
  go_ret2
  exact ⟨rfl, HN2.out⟩
theorem new_ok (most wait : Int) (w : World) (h : 1 ≤ most ∧ most ≤ 1024 ∧ 0 ≤ wait ∧ wait ≤ 1099511627776) :
    Calls Try.prog 17 #[.agg #[.int .i64 most, .int .i64 wait]] w fun e w' => ∃ p, e = .returned (.tuple #[.pointer (some ⟨p, 0, none⟩), .int .i64 0]) ∧ Bs w' p (.slice none 0 0) (zeroB most wait) ∧ New w w' ∧ w.heap.size ≤ p := by
  have HC := Lib.hid (fun w => check most wait w)
  rw [if_pos h] at HC
  clear h
  have hb0 : Blk (w.alloc (.cells #[.int .i64 most, .int .i64 wait] 52)) w.heap.size #[.int .i64 most, .int .i64 wait] 52 := Blk.new _ _ _
  have HN : Hid (New w (w.alloc (.cells #[.int .i64 most, .int .i64 wait] 52))) := Lib.hid ((Turns.refl _ _).alloc _)
  have HB := Lib.hid hb0
  clear hb0
  go_enter Try.func17, Try.ntmps17
  go_wp2_with fail
  refine (HC.out _).mono ?_
  rintro e w2 ⟨rfl, n2⟩
  have hb2 := n2.blk HB.out (fun h => h)
  have HN2 := Lib.hid (HN.out.trans (n2.mono (fun _ _ h => h.elim)))
  have c0 : w2.cell? ⟨w.heap.size, 0, none⟩ = some (.int .i64 most) := hb2.cell 0
  have c1 : w2.cell? ⟨w.heap.size, 1, none⟩ = some (.int .i64 wait) := hb2.cell 1
  clear n2 hb2 HN HB
  have hp : Hid (Bs (w2.alloc (.cells (bcells (zeroB most wait) (.slice none 0 0)).toArray BT)) w2.heap.size (.slice none 0 0) (zeroB most wait)) := Lib.hid ⟨Blk.new _ _ _, Owns.nil _ _, by simp [Value.ownBlock]⟩
  have HN3 : Hid (New w (w2.alloc (.cells (bcells (zeroB most wait) (.slice none 0 0)).toArray BT)) ∧ w.heap.size ≤ w2.heap.size) := Lib.hid ⟨HN2.out.alloc _, HN2.out.size⟩
  clear HN2
  go_wp2
  go_ret2
  exact ⟨_, rfl, hp.out, HN3.out.1, HN3.out.2⟩

/-! ### the search -/
def cmpF (a t : Int) : Int := if a < t then -1 else if t < a then 1 else 0
theorem isNaN (x : Int) (w : World) : Calls Try.prog 38 #[.int .i64 x] w fun e w' => e = .returned (.bool false) ∧ w' = w := by
  go_enter Try.func38, Try.ntmps38
  go_wp2
  go_ret
  exact ⟨rfl, rfl⟩
theorem compare (x y : Int) (w : World) : Calls Try.prog 34 #[.int .i64 x, .int .i64 y] w fun e w' => e = .returned (.int .i64 (cmpF x y)) ∧ w' = w := by
  have HI := Lib.hid (fun x w => isNaN x w)
  by_cases h1 : x < y
  · have HE : Hid (cmpF x y = -1) := Lib.hid (by simp [cmpF, h1])
    rw [HE.out]
    have d1 : decide (x < y) = true := decide_eq_true h1
    go_enter Try.func34, Try.ntmps34
    go_wp2_with fail
    refine (HI.out _ _).mono ?_
    rintro e w1 ⟨rfl, rfl⟩
    go_wp2_with fail
    refine (HI.out _ _).mono ?_
    rintro e w1 ⟨rfl, rfl⟩
    go_wp2
    go_ret
    exact ⟨rfl, rfl⟩
  · have d1 : decide (x < y) = false := decide_eq_false h1
    by_cases h2 : y < x
    · have HE : Hid (cmpF x y = 1) := Lib.hid (by simp [cmpF, h1, h2])
      rw [HE.out]
      have d2 : decide (y < x) = true := decide_eq_true h2
      go_enter Try.func34, Try.ntmps34
      go_wp2_with fail
      refine (HI.out _ _).mono ?_
      rintro e w1 ⟨rfl, rfl⟩
      go_wp2_with fail
      refine (HI.out _ _).mono ?_
      rintro e w1 ⟨rfl, rfl⟩
      go_wp2
      go_ret
      exact ⟨rfl, rfl⟩
    · have HE : Hid (cmpF x y = 0) := Lib.hid (by simp [cmpF, h1, h2])
      rw [HE.out]
      have d2 : decide (y < x) = false := decide_eq_false h2
      go_enter Try.func34, Try.ntmps34
      go_wp2_with fail
      refine (HI.out _ _).mono ?_
      rintro e w1 ⟨rfl, rfl⟩
      go_wp2_with fail
      refine (HI.out _ _).mono ?_
      rintro e w1 ⟨rfl, rfl⟩
      go_wp2
      go_ret
      exact ⟨rfl, rfl⟩
theorem closure (a : Int) (tx : ByteArray) (k t : Int) (w : World) : Calls Try.prog 33 #[.agg #[.int .i64 a, .string tx, .int .i64 k], .int .i64 t] w fun e w' => e = .returned (.int .i64 (cmpF a t)) ∧ New w w' := by
  have HC := Lib.hid (fun w => compare a t w)
  have HN : Hid (New w (w.alloc (.cells #[.int .i64 a, .string tx, .int .i64 k] PT))) := Lib.hid ((Turns.refl _ _).alloc _)
  go_enter Try.func33, Try.ntmps33
  go_wp2_with fail
  refine (HC.out _).mono ?_
  rintro e w1 ⟨rfl, rfl⟩
  go_wp2
  go_ret
  exact ⟨rfl, HN.out⟩
theorem cmpF_zero (a t : Int) : decide (cmpF a t = 0) = decide (a = t) := by
  unfold cmpF
  by_cases h1 : a < t
  · rw [if_pos h1, decide_eq_false (by omega), decide_eq_false (by omega)]
  · rw [if_neg h1]
    by_cases h2 : t < a
    · rw [if_pos h2, decide_eq_false (by omega), decide_eq_false (by omega)]
    · rw [if_neg h2, decide_eq_true (by omega), decide_eq_true (by omega)]

set_option maxRecDepth 10000 in
set_option maxHeartbeats 2000000 in
theorem search (p : Nat) (v : Value) (b : B) (t : Int) (w : World) (h : Bs w p v b) (hl : b.L.length ≤ 1025) (ha : Asc b.L) :
    Calls Try.prog 32 #[v, .int .i64 t, .func (.func 33) #[] #[]] w fun e w' => ∃ n, e = .returned (.tuple #[.int .i64 (n : Nat), .bool (hasT b.L t)]) ∧ Cut b.L t n ∧ New w w' := by
  obtain ⟨ao, c, hv, hlc, _⟩ := h.at_
  have HT := Lib.hid h
  have HAS := Lib.hid (And.intro ha (And.intro (fun n x hc hx => has_some (n := n) (x := x) (t := t) ha hc hx) (fun n hc hx => has_none (n := n) (t := t) ha hc hx)))
  clear h ha
  subst hv
  generalize hlen : b.L.length = len at *
  have HLL := Lib.hid hlen
  clear hlen
  have HCL := Lib.hid (fun a tx k w => closure a tx k t w)
  go_enter Try.func32, Try.ntmps32
  go_wp2_with fail
  go_loopw [9, 10] (fun i j wr => ∃ x y : Nat, x ≤ y ∧ y ≤ len ∧ i = .int .i64 x ∧ j = .int .i64 y ∧ (∀ k, (h : k < b.L.length) → k < x → b.L[k].at_ < t) ∧ (∀ k, (h : k < b.L.length) → y ≤ k → t ≤ b.L[k].at_) ∧ New w wr) (fun i j _ => (intOf j - intOf i).toNat)
  case atStart => exact ⟨0, len, Nat.zero_le _, Nat.le_refl _, rfl, rfl, fun k h1 h2 => by omega, fun k h1 h2 => by have := HLL.out; omega, Turns.refl _ _⟩
  case round =>
    obtain ⟨x, y, hab, hbl, rfl, rfl, hlo, hhi, hn⟩ := hrel
    have HLO := Lib.hid (And.intro hlo hhi)
    have HN := Lib.hid hn
    clear hlo hhi
    by_cases hgo : x < y
    · have d1 : decide ((x : Int) < (y : Int)) = true := decide_eq_true (by omega)
      obtain ⟨m, hm⟩ : ∃ m : Nat, m = (x + y) / 2 := ⟨_, rfl⟩
      have hm0 : x ≤ m ∧ m < y := by omega
      have HM := Lib.hid hm0
      have hml : m < len := by omega
      have hmL : Hid (m < b.L.length) := Lib.hid (by have := HLL.out; omega)
      have hmi : ((x : Int) + (y : Int)) / 2 = (m : Int) := by omega
      obtain ⟨ao', c', hv', _, hat⟩ := (HT.out.later hn).at_
      obtain ⟨g, hao, _, hg, hc0, hc1, hc2⟩ := hat m b.L[m] (List.getElem?_eq_getElem (by have := HLL.out; omega))
      rw [HLL.out] at hv'
      injection hv' with e1 _ e3
      subst e1 e3
      subst hao
      have i1 : (m : Int) < (len : Int) := by omega
      have HMT : Hid (∀ k, (hk : k < b.L.length) → (k < m → b.L[k].at_ < b.L[m].at_) ∧ (m < k → b.L[m].at_ < b.L[k].at_) ∧ (k = m → b.L[k].at_ = b.L[m].at_)) := Lib.hid (fun k hk => ⟨fun h => HAS.out.1.lt k m h (by have := HLL.out; omega), fun h => HAS.out.1.lt m k h hk, fun e => by subst e; rfl⟩)
      clear hm hm0 hat hn
      generalize b.L[m] = z at *
      obtain ⟨za, zt, zk⟩ := z
      dsimp only at *
      go_wp2_with fail
      refine (HCL.out _ _ _ _).mono ?_
      rintro e w2 ⟨rfl, n2⟩
      have HN2 := Lib.hid (HN.out.trans (n2.mono (fun _ _ h => h.elim)))
      clear n2 hc0 hc1 hc2 hg
      by_cases hlt : za < t
      · have e1 : cmpF za t = -1 := by simp [cmpF, hlt]
        rw [e1]
        clear e1
        have HLT := Lib.hid hlt
        clear hlt
        go_wp2_with fail
        go_roundw
        case rel => exact ⟨m + 1, y, by have := HM.out; omega, hbl, by go_num, rfl, fun k hk hkm => by
          have h3 := HMT.out k hk
          have h4 := HLT.out
          rcases Nat.lt_trichotomy k m with h | h | h
          · have := h3.1 h; omega
          · have := h3.2.2 h; omega
          · omega, HLO.out.2, HN2.out⟩
        case measure => have := HM.out; simp [intOf]; omega
      · have hge : ¬ (cmpF za t < 0) := by unfold cmpF; rw [if_neg hlt]; split <;> omega
        have d2 : decide (cmpF za t < 0) = false := decide_eq_false hge
        have HLT := Lib.hid hlt
        generalize cmpF za t = cf at *
        clear hge hlt
        go_wp2_with fail
        go_roundw
        case rel => exact ⟨x, m, by have := HM.out; omega, by omega, rfl, rfl, HLO.out.1, fun k hk hkm => by
          have h3 := HMT.out k hk
          have h4 := HLT.out
          rcases Nat.lt_trichotomy k m with h | h | h
          · omega
          · have := h3.2.2 h; omega
          · have := h3.2.1 h; omega, HN2.out⟩
        case measure => have := HM.out; simp [intOf]; omega
    · obtain rfl : x = y := by omega
      have d1 : decide ((x : Int) < (x : Int)) = false := decide_eq_false (by omega)
      have HCUT : Hid (Cut b.L t x) := Lib.hid ⟨by have := HLL.out; omega, HLO.out.1, HLO.out.2⟩
      by_cases hal : x < len
      · have hxl : x < b.L.length := by have := HLL.out; omega
        have d2 : decide ((x : Int) < (len : Int)) = true := decide_eq_true (by omega)
        have HHB : Hid (decide (b.L[x].at_ = t) = hasT b.L t) := Lib.hid (HAS.out.2.1 x _ HCUT.out (List.getElem?_eq_getElem hxl))
        obtain ⟨ao', c', hv', _, hat⟩ := (HT.out.later hn).at_
        obtain ⟨g, hao, _, hg, hc0, hc1, hc2⟩ := hat x b.L[x] (List.getElem?_eq_getElem hxl)
        rw [HLL.out] at hv'
        injection hv' with e1 _ e3
        subst e1 e3
        subst hao
        clear hat hn HAS
        generalize b.L[x] = z at *
        clear hxl
        obtain ⟨za, zt, zk⟩ := z
        dsimp only at *
        go_wp2_with fail
        refine (HCL.out _ _ _ _).mono ?_
        rintro e w2 ⟨rfl, n2⟩
        have HN2 := Lib.hid (HN.out.trans (n2.mono (fun _ _ h => h.elim)))
        clear n2 hc0 hc1 hc2 hg
        have HZ := Lib.hid (cmpF_zero za t)
        generalize cmpF za t = cf at *
        go_wp2
        go_ret2
        exact ⟨x, by rw [← HHB.out, ← HZ.out]; congr, HCUT.out, HN2.out⟩
      · have d2 : decide ((x : Int) < (len : Int)) = false := decide_eq_false (by omega)
        have HHB : Hid (false = hasT b.L t) := Lib.hid (HAS.out.2.2 x HCUT.out (List.getElem?_eq_none (by have := HLL.out; omega)))
        clear HAS hn
        go_wp2
        go_ret2
        exact ⟨x, (by have e := HHB.out; rw [← e]; first | done | rfl | (simp; done) | trace_state), HCUT.out, HN.out⟩

theorem find (p : Nat) (v : Value) (b : B) (t : Int) (w : World) (h : Bs w p v b) (hl : b.L.length ≤ 1025) (ha : Asc b.L) :
    Calls Try.prog 27 #[.pointer (some ⟨p, 0, none⟩), .int .i64 t] w fun e w' => ∃ n, e = .returned (.tuple #[.int .i64 (n : Nat), .bool (hasT b.L t)]) ∧ Cut b.L t n ∧ New w w' := by
  have HS := Lib.hid (search p v b t w h hl ha)
  have c2 := h.c2
  clear h ha
  go_enter Try.func27, Try.ntmps27
  go_wp2_with fail
  refine HS.out.mono ?_
  rintro e w2 ⟨n, rfl, hc, n2⟩
  have HC := Lib.hid (And.intro hc n2)
  clear hc n2
  go_wp2
  go_ret2
  exact ⟨n, rfl, HC.out⟩
end Go.Proofs.Ytfgfejcnkjeghaa.reo
