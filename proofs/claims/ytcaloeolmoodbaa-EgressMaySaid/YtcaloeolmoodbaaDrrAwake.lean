/-
  Layer 19's laws: awake; what their loops keep.
-/
import Derived.Test.YtcaloeolmoodbaaDrrChoose
namespace Go.Proofs.Ytcaloeolmoodbaa.drr
open Go.RowKit mem Go.Maps
set_option linter.unusedVariables false

/-- a schedule made since w -/
structure Rn (w wr : World) (p mb c : Nat) (D : DataW Unit) (s : Sc) : Prop where
  ss : Ss wr p mb c D s
  n : New w wr
  p0 : w.heap.size ≤ p
  m0 : w.heap.size ≤ mb
  f0 : ∀ f ∈ s.L, w.heap.size ≤ f.b
section
variable {w wr w2 : World} {p mb c : Nat} {D : DataW Unit} {s s' : Sc}
theorem Rn.later (h : Rn w wr p mb c D s) (n : New wr w2) : Rn w w2 p mb c D s :=
  ⟨h.ss.later n, h.n.trans (n.mono (fun _ _ h => h.elim)), h.p0, h.m0, h.f0⟩
theorem Rn.foot (h : Rn w wr p mb c D s) : ∀ k, Foot p mb s k → w.heap.size ≤ k := fun k hk => by
  rcases hk with e | e | ⟨f, hf, e⟩
  · rw [e]; exact h.p0
  · rw [e]; exact h.m0
  · rw [← e]; exact h.f0 f hf
theorem Rn.call (h : Rn w wr p mb c D s) (hl : Lf wr w2 p mb c D s s') (sim : Sim s s') : Rn w w2 p mb c D s' :=
  ⟨hl.1, h.n.trans (hl.2.mono (fun i _ hi => .inr (h.foot i hi))), h.p0, h.m0, fun f hf => by
    obtain ⟨_, F, e⟩ := sim
    rw [e] at hf
    obtain ⟨f', hf', rfl⟩ := upd_mem hf
    exact h.f0 f' hf'⟩
theorem Rn.add (h : Rn w wr p mb c D s) {c' : Nat} {D' : DataW Unit} {id sh : Int} (hs : Ss w2 p mb c' D' (addS s id wr.heap.size sh)) (t : Turns (· = mb) wr w2) : Rn w w2 p mb c' D' (addS s id wr.heap.size sh) :=
  ⟨hs, h.n.trans (t.mono (fun i _ hi => .inr (by rw [hi]; exact h.m0))), h.p0, h.m0, fun f hf => by
    rcases List.mem_append.1 hf with hf | hf
    · exact h.f0 f hf
    · simp at hf; subst hf
      exact h.n.size⟩
end
theorem Sim.take (s : Sc) (n : Int) : Sim s (takeS n s) := by
  unfold takeS
  split
  · exact ⟨rfl, _, rfl⟩
  · exact Sim.refl s
theorem Sim.trans {a b c : Sc} (h : Sim a b) (k : Sim b c) : Sim a c := by
  obtain ⟨m, F, e⟩ := h
  obtain ⟨m2, G, e2⟩ := k
  exact ⟨m2.trans m, _, by rw [e2, e, upd_upd]⟩
theorem Sim.choose (l : Hs) (s : Sc) : Sim s (chooseS l s) := by
  cases l with
  | nil => exact ⟨rfl, _, rfl⟩
  | cons x r =>
    show Sim s (runS (x :: r) (firS (x :: r) s))
    have h1 : Sim s (firS (x :: r) s) := by
      unfold firS
      split
      · exact Sim.beg s _
      · exact (Sim.beg s _).pass _
    unfold runS
    split
    · exact (h1.grant.pass _).grant
    · exact h1.grant
/-- a list of heads that has just been built -/
theorem hrow_new (w : World) (l : Hs) (cs : Array Value) (hc : ∀ j h, l[j]? = some h → cs[j * 2]? = some (.int .i64 h.1) ∧ cs[j * 2 + 1]? = some (.int .i64 h.2)) : HRow (w.alloc (.cells cs HT)) (.slice (some ⟨w.heap.size, 0, none⟩) l.length l.length) l := by
  have hb : Blk (w.alloc (.cells cs HT)) w.heap.size cs HT := Blk.new _ _ _
  refine ⟨_, _, rfl, Nat.le_refl _, .inr ⟨w.heap.size, 0, rfl, hb.lt, fun j h hj => ?_⟩⟩
  rw [Nat.zero_add]
  exact ⟨(hb.cell _).trans (hc j h hj).1, (hb.cell _).trans (hc j h hj).2⟩
def hs2 (a b : Int) : Hs := [(1, a), (2, b)]
theorem hrow2 (w : World) (a b : Int) : HRow (w.alloc (.cells #[.int .i64 1, .int .i64 a, .int .i64 2, .int .i64 b] HT)) (.slice (some ⟨w.heap.size, 0, none⟩) 2 2) (hs2 a b) :=
  hrow_new w (hs2 a b) _ (fun j h hj => by
    match j, hj with
    | 0, hj => simp [hs2] at hj; subst hj; exact ⟨rfl, rfl⟩
    | 1, hj => simp [hs2] at hj; subst hj; exact ⟨rfl, rfl⟩
    | j + 2, hj => simp [hs2] at hj)
/-- flows 1 and 2 -/
def two12 (s : Sc) : Prop := (∃ f ∈ s.L, f.id = 1) ∧ ∃ f ∈ s.L, f.id = 2
theorem two12.sim {s s' : Sc} (h : two12 s) (k : Sim s s') : two12 s' := ⟨k.fl h.1, k.fl h.2⟩
theorem ok2 {s : Sc} (h : two12 s) {a b : Int} (a0 : 0 ≤ a) (a1 : a ≤ s.most) (b0 : 0 ≤ b) (b1 : b ≤ s.most) : Ok s (hs2 a b) :=
  ⟨by simp [hs2, ids], (fun x hx => by simp [hs2] at hx; rcases hx with rfl | rfl; exact h.1; exact h.2), (fun x hx => by simp [hs2] at hx; rcases hx with rfl | rfl; exact ⟨a0, a1⟩; exact ⟨b0, b1⟩)⟩
theorem rg2 (a b : Int) : ∀ x ∈ ids (hs2 a b), -9223372036854775808 ≤ x ∧ x ≤ 9223372036854775807 := fun x hx => by
  simp [hs2, ids] at hx
  rcases hx with rfl | rfl <;> omega
/-- Choose of flows 1 and 2 -/
theorem choose2 (p mb c : Nat) (D : DataW Unit) (s : Sc) (a b : Int) (w : World) (h : Ss w p mb c D s) (h2 : two12 s) (a0 : 0 ≤ a) (a1 : a ≤ s.most) (b0 : 0 ≤ b) (b1 : b ≤ s.most) :
    Calls Try.prog 25 #[.pointer (some ⟨p, 0, none⟩), .slice (some ⟨w.heap.size, 0, none⟩) 2 2] (w.alloc (.cells #[.int .i64 1, .int .i64 a, .int .i64 2, .int .i64 b] HT)) fun e w' => e = .returned (.tuple #[.int .i64 (chooseS (hs2 a b) s).turn, .bool true]) ∧ Lf w w' p mb c D s (chooseS (hs2 a b) s) := by
  refine (choose_cons p mb c D s (hs2 a b) _ _ (h.later ((Turns.refl _ _).alloc _)) (hrow2 w a b) (ok2 h2 a0 a1 b0 b1) (by simp [hs2]) (by simp [hs2]) (rg2 a b)).mono ?_
  rintro e w' ⟨rfl, h1, h2⟩
  exact ⟨rfl, h1, (((Turns.refl (Foot p mb s) w).alloc (.cells #[.int .i64 1, .int .i64 a, .int .i64 2, .int .i64 b] HT))).trans (h2.mono (fun _ _ h => .inl h))⟩

/-! ### awake -/
def st0 (b1 b2 : Nat) : Sc := addS (addS (fresh 10) 1 b1 10) 2 b2 20
def stA (b1 b2 : Nat) : Nat → Sc
  | 0 => st0 b1 b2
  | n + 1 => takeS 10 (chooseS (hs2 10 10) (stA b1 b2 n))
theorem stA_sim (b1 b2 n : Nat) : Sim (st0 b1 b2) (stA b1 b2 n) := by
  induction n with
  | zero => exact Sim.refl _
  | succ n ih => exact (ih.trans (Sim.choose _ _)).trans (Sim.take _ _)
def wantA (n : Nat) : Int := [1, 2, 2, 1, 2, 2].getD n 0
theorem turn_want (b1 b2 : Nat) : ∀ n, n < 6 → (chooseS (hs2 10 10) (stA b1 b2 n)).turn = wantA n
  | 0, _ => by kernel_rfl
  | 1, _ => by kernel_rfl
  | 2, _ => by kernel_rfl
  | 3, _ => by kernel_rfl
  | 4, _ => by kernel_rfl
  | 5, _ => by kernel_rfl
  | n + 6, h => by omega
abbrev wcs : Array Value := #[.int .i64 1, .int .i64 2, .int .i64 2, .int .i64 1, .int .i64 2, .int .i64 2]
theorem wcs_at : ∀ n, n < 6 → wcs[n]? = some (.int .i64 (wantA n))
  | 0, _ => rfl
  | 1, _ => rfl
  | 2, _ => rfl
  | 3, _ => rfl
  | 4, _ => rfl
  | 5, _ => rfl
  | n + 6, h => by omega
theorem fnd_fresh (m id : Int) : fnd (fresh m).L id = none := rfl
theorem fnd_one (m : Int) (b : Nat) (sh id : Int) (h : id ≠ 1) : fnd (addS (fresh m) 1 b sh).L id = none := by
  show fnd [⟨1, b, sh, 0⟩] id = none
  have : ((1 : Int) == id) = false := by simp; omega
  simp [fnd, List.find?_cons, this]
set_option maxRecDepth 100000 in
set_option maxHeartbeats 2000000 in
theorem awake (w : World) : Calls Try.prog 23 #[] w fun e w' => e = .returned (.bool true) ∧ New w w' := by
  have HN := Lib.hid (new_ok 10 w (by omega) (by omega))
  go_enter Try.func23, Try.ntmps23
  go_wp2_with fail
  refine HN.out.mono ?_
  rintro e w1 ⟨p, rfl, hs1, hn1, hp1⟩
  obtain ⟨mb, hmb⟩ : ∃ mb, w.heap.size = mb := ⟨_, rfl⟩
  have HR1 : Hid (Rn w w1 p w.heap.size 0 (.map []) (fresh 10)) := Lib.hid ⟨hs1, hn1, hp1, Nat.le_refl _, (fun f hf => by cases hf)⟩
  rw [hmb] at HR1
  clear hs1 hn1 hp1 HN hmb
  have HA1 := Lib.hid (add_ok p mb 0 _ (fresh 10) 1 10 w1 HR1.out.ss (by show (10 : Int) ≤ 10; omega) (by omega) (by omega) (by omega) (fnd_fresh _ _) (by omega))
  go_wp2_with fail
  refine HA1.out.mono ?_
  rintro e w2 ⟨rfl, hs2, ht2⟩
  have HR2 := Lib.hid (HR1.out.add hs2 ht2)
  have HB : Hid (w1.heap.size < w2.heap.size) := Lib.hid ((hs2.flt _ (List.mem_append_right _ List.mem_cons_self)))
  clear hs2 ht2 HA1 HR1
  generalize w1.heap.size = b1 at *
  generalize DataW.put (.map []) (.int .i64 1) _ = D1 at *
  have HA2 := Lib.hid (add_ok p mb 1 D1 (addS (fresh 10) 1 b1 10) 2 20 w2 HR2.out.ss (by show (10 : Int) ≤ 20; omega) (by omega) (by omega) (by omega) (fnd_one _ _ _ _ (by omega)) (by omega))
  go_wp2_with fail
  refine HA2.out.mono ?_
  rintro e w3 ⟨rfl, hs3, ht3⟩
  have HR3 := Lib.hid (HR2.out.add hs3 ht3)
  clear hs3 ht3 HA2 HR2 HB
  generalize w2.heap.size = b2 at *
  generalize DataW.put D1 (.int .i64 2) _ = D2 at *
  have HR4 : Hid (Rn w (w3.alloc (.cells wcs 3)) p mb 2 D2 (st0 b1 b2) ∧ Blk (w3.alloc (.cells wcs 3)) w3.heap.size wcs 3 ∧ (∀ k, Foot p mb (st0 b1 b2) k → k ≠ w3.heap.size)) := Lib.hid ⟨HR3.out.later ((Turns.refl _ _).alloc _), Blk.new _ _ _, fun k hk => by have := HR3.out.ss.foot k hk; omega⟩
  clear HR3
  have H12 : Hid (two12 (st0 b1 b2)) := Lib.hid ⟨⟨_, List.mem_append_left _ (List.mem_append_right _ List.mem_cons_self), rfl⟩, ⟨_, List.mem_append_right _ List.mem_cons_self, rfl⟩⟩
  go_wp2_with fail
  go_loopw [29] (fun i wr => ∃ k : Nat, k ≤ 6 ∧ i = .int .i64 k ∧ Rn w wr p mb 2 D2 (stA b1 b2 k) ∧ Blk wr w3.heap.size wcs 3) (fun i _ => 6 - (intOf i).toNat)
  case atStart => exact ⟨0, by omega, rfl, HR4.out.1, HR4.out.2.1⟩
  case round =>
    obtain ⟨k, hk, rfl, hrn, hbw⟩ := hrel
    have HRN := Lib.hid hrn
    have HBW := Lib.hid hbw
    clear hrn hbw
    by_cases hlt : k < 6
    · have hc := (HBW.out.cell k).trans (wcs_at k hlt)
      have hsim := stA_sim b1 b2 k
      have h12 := H12.out.sim hsim
      have hmo : (stA b1 b2 k).most = 10 := hsim.1
      have HCH := Lib.hid (choose2 p mb 2 D2 (stA b1 b2 k) 10 10 wr HRN.out.ss h12 (by omega) (by omega) (by omega) (by omega))
      rw [turn_want b1 b2 k hlt] at HCH
      have HFT : Hid (¬ Foot p mb (stA b1 b2 k) w3.heap.size) := Lib.hid (fun e => HR4.out.2.2 _ (hsim.foot e) rfl)
      have HSM := Lib.hid hsim
      have HEQ : Hid (takeS 10 (chooseS (hs2 10 10) (stA b1 b2 k)) = stA b1 b2 (k + 1)) := Lib.hid rfl
      have d1 : decide ((k : Int) < 6) = true := decide_eq_true (by omega)
      have i0 : (0 : Int) ≤ (k : Int) := by omega
      have i1 : (k : Int) < 6 := by omega
      generalize wantA k = x at *
      generalize stA b1 b2 k = sk at *
      clear h12 hmo hsim
      go_wp2_with fail
      refine HCH.out.mono ?_
      rintro e w5 ⟨rfl, hl5⟩
      have HR5 := Lib.hid (HRN.out.call hl5 (Sim.choose _ _))
      have HB5 := Lib.hid (hl5.2.blk HBW.out HFT.out)
      have HF5 : Hid (¬ Foot p mb (chooseS (hs2 10 10) sk) w3.heap.size) := Lib.hid (fun e => HFT.out ((Sim.choose _ _).foot e))
      have HTK := Lib.hid (take p mb 2 D2 (chooseS (hs2 10 10) sk) 10 w5 hl5.1 (by omega))
      rw [HEQ.out] at HTK
      have HS6 : Hid (Sim (chooseS (hs2 10 10) sk) (stA b1 b2 (k + 1))) := Lib.hid (by rw [← HEQ.out]; exact Sim.take _ _)
      clear hl5 HCH hc
      go_wp2_with fail
      refine HTK.out.mono ?_
      rintro e w6 ⟨rfl, hl6⟩
      have HR6 := Lib.hid (HR5.out.call hl6 HS6.out)
      have HB6 := Lib.hid (hl6.2.blk HB5.out HF5.out)
      clear hl6 HTK
      go_wp2_with fail
      go_roundw
      case rel => exact ⟨k + 1, by omega, by go_num, HR6.out, HB6.out⟩
      case measure => simp [intOf]; omega
    · obtain rfl : k = 6 := by omega
      go_wp2
      go_ret
      exact ⟨rfl, HRN.out.n⟩
end Go.Proofs.Ytcaloeolmoodbaa.drr
