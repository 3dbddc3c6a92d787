/-
  Parts of the proof, one behind the other.
-/
import Derived.Test.YtcppibjllaablaaZDrrChoose
import Derived.Test.YtcppibjllaablaaZKaa
import Derived.Test.YtcppibjllaablaaZQuePut
import Derived.Deep.DeepCutAuto
import Derived.Deep.RegionHeld3
import Derived.BigQuiet
import Derived.Test.YtcppibjllaablaaZKab
set_option linter.unusedVariables false
set_option linter.unusedSimpArgs false
/-
  Layer 19's laws: awake; what their loops keep.
-/
namespace Go.Proofs.Ytcppibjllaablaa.drr
open Go.RowKit mem Go.Maps
set_option linter.unusedVariables false

/-- a schedule made since w -/
structure Rn (w wr : World) (p mb c : Nat) (D : DataW Unit) (s : Sc) : Prop where
  ss : Ss wr p mb c D s
  n : New w wr
  p0 : w.heap.size ≤ p
  m0 : w.heap.size ≤ mb
  f0 : ∀ f ∈ s.L, w.heap.size ≤ f.b
section
variable {w wr w2 : World} {p mb c : Nat} {D : DataW Unit} {s s' : Sc}
theorem Rn.later (h : Rn w wr p mb c D s) (n : New wr w2) : Rn w w2 p mb c D s :=
  ⟨h.ss.later n, h.n.trans (n.mono (fun _ _ h => h.elim)), h.p0, h.m0, h.f0⟩
theorem Rn.foot (h : Rn w wr p mb c D s) : ∀ k, Foot p mb s k → w.heap.size ≤ k := fun k hk => by
  rcases hk with e | e | ⟨f, hf, e⟩
  · rw [e]; exact h.p0
  · rw [e]; exact h.m0
  · rw [← e]; exact h.f0 f hf
theorem Rn.call (h : Rn w wr p mb c D s) (hl : Lf wr w2 p mb c D s s') (sim : Sim s s') : Rn w w2 p mb c D s' :=
  ⟨hl.1, h.n.trans (hl.2.mono (fun i _ hi => .inr (h.foot i hi))), h.p0, h.m0, fun f hf => by
    obtain ⟨_, F, e⟩ := sim
    rw [e] at hf
    obtain ⟨f', hf', rfl⟩ := upd_mem hf
    exact h.f0 f' hf'⟩
theorem Rn.add (h : Rn w wr p mb c D s) {c' : Nat} {D' : DataW Unit} {id sh : Int} (hs : Ss w2 p mb c' D' (addS s id wr.heap.size sh)) (t : Turns (· = mb) wr w2) : Rn w w2 p mb c' D' (addS s id wr.heap.size sh) :=
  ⟨hs, h.n.trans (t.mono (fun i _ hi => .inr (by rw [hi]; exact h.m0))), h.p0, h.m0, fun f hf => by
    rcases List.mem_append.1 hf with hf | hf
    · exact h.f0 f hf
    · simp at hf; subst hf
      exact h.n.size⟩
end
theorem Sim.take (s : Sc) (n : Int) : Sim s (takeS n s) := by
  unfold takeS
  split
  · exact ⟨rfl, _, rfl⟩
  · exact Sim.refl s
theorem Sim.trans {a b c : Sc} (h : Sim a b) (k : Sim b c) : Sim a c := by
  obtain ⟨m, F, e⟩ := h
  obtain ⟨m2, G, e2⟩ := k
  exact ⟨m2.trans m, _, by rw [e2, e, upd_upd]⟩
theorem Sim.choose (l : Hs) (s : Sc) : Sim s (chooseS l s) := by
  cases l with
  | nil => exact ⟨rfl, _, rfl⟩
  | cons x r =>
    show Sim s (runS (x :: r) (firS (x :: r) s))
    have h1 : Sim s (firS (x :: r) s) := by
      unfold firS
      split
      · exact Sim.beg s _
      · exact (Sim.beg s _).pass _
    unfold runS
    split
    · exact (h1.grant.pass _).grant
    · exact h1.grant
/-- a list of heads that has just been built -/
theorem hrow_new (w : World) (l : Hs) (cs : Array Value) (hc : ∀ j h, l[j]? = some h → cs[j * 2]? = some (.int .i64 h.1) ∧ cs[j * 2 + 1]? = some (.int .i64 h.2)) : HRow (w.alloc (.cells cs HT)) (.slice (some ⟨w.heap.size, 0, none⟩) l.length l.length) l := by
  have hb : Blk (w.alloc (.cells cs HT)) w.heap.size cs HT := Blk.new _ _ _
  refine ⟨_, _, rfl, Nat.le_refl _, .inr ⟨w.heap.size, 0, rfl, hb.lt, fun j h hj => ?_⟩⟩
  rw [Nat.zero_add]
  exact ⟨(hb.cell _).trans (hc j h hj).1, (hb.cell _).trans (hc j h hj).2⟩
def hs2 (a b : Int) : Hs := [(1, a), (2, b)]
theorem hrow2 (w : World) (a b : Int) : HRow (w.alloc (.cells #[.int .i64 1, .int .i64 a, .int .i64 2, .int .i64 b] HT)) (.slice (some ⟨w.heap.size, 0, none⟩) 2 2) (hs2 a b) :=
  hrow_new w (hs2 a b) _ (fun j h hj => by
    match j, hj with
    | 0, hj => simp [hs2] at hj; subst hj; exact ⟨rfl, rfl⟩
    | 1, hj => simp [hs2] at hj; subst hj; exact ⟨rfl, rfl⟩
    | j + 2, hj => simp [hs2] at hj)
/-- flows 1 and 2 -/
def two12 (s : Sc) : Prop := (∃ f ∈ s.L, f.id = 1) ∧ ∃ f ∈ s.L, f.id = 2
theorem two12.sim {s s' : Sc} (h : two12 s) (k : Sim s s') : two12 s' := ⟨k.fl h.1, k.fl h.2⟩
theorem ok2 {s : Sc} (h : two12 s) {a b : Int} (a0 : 0 ≤ a) (a1 : a ≤ s.most) (b0 : 0 ≤ b) (b1 : b ≤ s.most) : Ok s (hs2 a b) :=
  ⟨by simp [hs2, ids], (fun x hx => by simp [hs2] at hx; rcases hx with rfl | rfl; exact h.1; exact h.2), (fun x hx => by simp [hs2] at hx; rcases hx with rfl | rfl; exact ⟨a0, a1⟩; exact ⟨b0, b1⟩)⟩
theorem rg2 (a b : Int) : ∀ x ∈ ids (hs2 a b), -9223372036854775808 ≤ x ∧ x ≤ 9223372036854775807 := fun x hx => by
  simp [hs2, ids] at hx
  rcases hx with rfl | rfl <;> omega
/-- Choose of flows 1 and 2 -/
theorem choose2 (p mb c : Nat) (D : DataW Unit) (s : Sc) (a b : Int) (w : World) (h : Ss w p mb c D s) (h2 : two12 s) (a0 : 0 ≤ a) (a1 : a ≤ s.most) (b0 : 0 ≤ b) (b1 : b ≤ s.most) :
    Calls Try.prog 21 #[.pointer (some ⟨p, 0, none⟩), .slice (some ⟨w.heap.size, 0, none⟩) 2 2] (w.alloc (.cells #[.int .i64 1, .int .i64 a, .int .i64 2, .int .i64 b] HT)) fun e w' => e = .returned (.tuple #[.int .i64 (chooseS (hs2 a b) s).turn, .bool true]) ∧ Lf w w' p mb c D s (chooseS (hs2 a b) s) := by
  refine (choose_cons p mb c D s (hs2 a b) _ _ (h.later ((Turns.refl _ _).alloc _)) (hrow2 w a b) (ok2 h2 a0 a1 b0 b1) (by simp [hs2]) (by simp [hs2]) (rg2 a b)).mono ?_
  rintro e w' ⟨rfl, h1, h2⟩
  exact ⟨rfl, h1, (((Turns.refl (Foot p mb s) w).alloc (.cells #[.int .i64 1, .int .i64 a, .int .i64 2, .int .i64 b] HT))).trans (h2.mono (fun _ _ h => .inl h))⟩

/-! ### awake -/
def st0 (b1 b2 : Nat) : Sc := addS (addS (fresh 10) 1 b1 10) 2 b2 20
def stA (b1 b2 : Nat) : Nat → Sc
  | 0 => st0 b1 b2
  | n + 1 => takeS 10 (chooseS (hs2 10 10) (stA b1 b2 n))
theorem stA_sim (b1 b2 n : Nat) : Sim (st0 b1 b2) (stA b1 b2 n) := by
  induction n with
  | zero => exact Sim.refl _
  | succ n ih => exact (ih.trans (Sim.choose _ _)).trans (Sim.take _ _)
def wantA (n : Nat) : Int := [1, 2, 2, 1, 2, 2].getD n 0
theorem turn_want (b1 b2 : Nat) : ∀ n, n < 6 → (chooseS (hs2 10 10) (stA b1 b2 n)).turn = wantA n
  | 0, _ => by kernel_rfl
  | 1, _ => by kernel_rfl
  | 2, _ => by kernel_rfl
  | 3, _ => by kernel_rfl
  | 4, _ => by kernel_rfl
  | 5, _ => by kernel_rfl
  | n + 6, h => by omega
abbrev wcs : Array Value := #[.int .i64 1, .int .i64 2, .int .i64 2, .int .i64 1, .int .i64 2, .int .i64 2]
theorem wcs_at : ∀ n, n < 6 → wcs[n]? = some (.int .i64 (wantA n))
  | 0, _ => rfl
  | 1, _ => rfl
  | 2, _ => rfl
  | 3, _ => rfl
  | 4, _ => rfl
  | 5, _ => rfl
  | n + 6, h => by omega
theorem fnd_fresh (m id : Int) : fnd (fresh m).L id = none := rfl
theorem fnd_one (m : Int) (b : Nat) (sh id : Int) (h : id ≠ 1) : fnd (addS (fresh m) 1 b sh).L id = none := by
  show fnd [⟨1, b, sh, 0⟩] id = none
  have : ((1 : Int) == id) = false := by simp; omega
  simp [fnd, this]
set_option maxRecDepth 100000 in
set_option maxHeartbeats 2000000 in
theorem awake (w : World) : Calls Try.prog 19 #[] w fun e w' => e = .returned (.bool true) ∧ New w w' := by
  have HN := Lib.hid (new_ok 10 w (by omega) (by omega))
  go_enter Try.func19, Try.ntmps19
  go_wp2_with fail
  refine HN.out.mono ?_
  rintro e w1 ⟨p, rfl, hs1, hn1, hp1⟩
  obtain ⟨mb, hmb⟩ : ∃ mb, w.heap.size = mb := ⟨_, rfl⟩
  have HR1 : Hid (Rn w w1 p w.heap.size 0 (.map []) (fresh 10)) := Lib.hid ⟨hs1, hn1, hp1, Nat.le_refl _, (fun f hf => by cases hf)⟩
  rw [hmb] at HR1
  clear hs1 hn1 hp1 HN hmb
  have HA1 := Lib.hid (add_ok p mb 0 _ (fresh 10) 1 10 w1 HR1.out.ss (by show (10 : Int) ≤ 10; omega) (by omega) (by omega) (by omega) (fnd_fresh _ _) (by omega))
  go_wp2_with fail
  refine HA1.out.mono ?_
  rintro e w2 ⟨rfl, hs2, ht2⟩
  have HR2 := Lib.hid (HR1.out.add hs2 ht2)
  have HB : Hid (w1.heap.size < w2.heap.size) := Lib.hid ((hs2.flt _ (List.mem_append_right _ List.mem_cons_self)))
  clear hs2 ht2 HA1 HR1
  generalize w1.heap.size = b1 at *
  generalize DataW.put (.map []) (.int .i64 1) _ = D1 at *
  have HA2 := Lib.hid (add_ok p mb 1 D1 (addS (fresh 10) 1 b1 10) 2 20 w2 HR2.out.ss (by show (10 : Int) ≤ 20; omega) (by omega) (by omega) (by omega) (fnd_one _ _ _ _ (by omega)) (by omega))
  go_wp2_with fail
  refine HA2.out.mono ?_
  rintro e w3 ⟨rfl, hs3, ht3⟩
  have HR3 := Lib.hid (HR2.out.add hs3 ht3)
  clear hs3 ht3 HA2 HR2 HB
  generalize w2.heap.size = b2 at *
  generalize DataW.put D1 (.int .i64 2) _ = D2 at *
  have HR4 : Hid (Rn w (w3.alloc (.cells wcs 3)) p mb 2 D2 (st0 b1 b2) ∧ Blk (w3.alloc (.cells wcs 3)) w3.heap.size wcs 3 ∧ (∀ k, Foot p mb (st0 b1 b2) k → k ≠ w3.heap.size)) := Lib.hid ⟨HR3.out.later ((Turns.refl _ _).alloc _), Blk.new _ _ _, fun k hk => by have := HR3.out.ss.foot k hk; omega⟩
  clear HR3
  have H12 : Hid (two12 (st0 b1 b2)) := Lib.hid ⟨⟨_, List.mem_append_left _ (List.mem_append_right _ List.mem_cons_self), rfl⟩, ⟨_, List.mem_append_right _ List.mem_cons_self, rfl⟩⟩
  go_wp2_with fail
  go_loopw [29] (fun i wr => ∃ k : Nat, k ≤ 6 ∧ i = .int .i64 k ∧ Rn w wr p mb 2 D2 (stA b1 b2 k) ∧ Blk wr w3.heap.size wcs 3) (fun i _ => 6 - (intOf i).toNat)
  case atStart => exact ⟨0, by omega, rfl, HR4.out.1, HR4.out.2.1⟩
  case round =>
    obtain ⟨k, hk, rfl, hrn, hbw⟩ := hrel
    have HRN := Lib.hid hrn
    have HBW := Lib.hid hbw
    clear hrn hbw
    by_cases hlt : k < 6
    · have hc := (HBW.out.cell k).trans (wcs_at k hlt)
      have hsim := stA_sim b1 b2 k
      have h12 := H12.out.sim hsim
      have hmo : (stA b1 b2 k).most = 10 := hsim.1
      have HCH := Lib.hid (choose2 p mb 2 D2 (stA b1 b2 k) 10 10 wr HRN.out.ss h12 (by omega) (by omega) (by omega) (by omega))
      rw [turn_want b1 b2 k hlt] at HCH
      have HFT : Hid (¬ Foot p mb (stA b1 b2 k) w3.heap.size) := Lib.hid (fun e => HR4.out.2.2 _ (hsim.foot e) rfl)
      have HSM := Lib.hid hsim
      have HEQ : Hid (takeS 10 (chooseS (hs2 10 10) (stA b1 b2 k)) = stA b1 b2 (k + 1)) := Lib.hid rfl
      have d1 : decide ((k : Int) < 6) = true := decide_eq_true (by omega)
      have i0 : (0 : Int) ≤ (k : Int) := by omega
      have i1 : (k : Int) < 6 := by omega
      generalize wantA k = x at *
      generalize stA b1 b2 k = sk at *
      clear h12 hmo hsim
      go_wp2_with fail
      refine HCH.out.mono ?_
      rintro e w5 ⟨rfl, hl5⟩
      have HR5 := Lib.hid (HRN.out.call hl5 (Sim.choose _ _))
      have HB5 := Lib.hid (hl5.2.blk HBW.out HFT.out)
      have HF5 : Hid (¬ Foot p mb (chooseS (hs2 10 10) sk) w3.heap.size) := Lib.hid (fun e => HFT.out ((Sim.choose _ _).foot e))
      have HTK := Lib.hid (take p mb 2 D2 (chooseS (hs2 10 10) sk) 10 w5 hl5.1 (by omega))
      rw [HEQ.out] at HTK
      have HS6 : Hid (Sim (chooseS (hs2 10 10) sk) (stA b1 b2 (k + 1))) := Lib.hid (by rw [← HEQ.out]; exact Sim.take _ _)
      clear hl5 HCH hc
      go_wp2_with fail
      refine HTK.out.mono ?_
      rintro e w6 ⟨rfl, hl6⟩
      have HR6 := Lib.hid (HR5.out.call hl6 HS6.out)
      have HB6 := Lib.hid (hl6.2.blk HB5.out HF5.out)
      clear hl6 HTK
      go_wp2_with fail
      go_roundw
      case rel => exact ⟨k + 1, by omega, by go_num, HR6.out, HB6.out⟩
      case measure => simp [intOf]; omega
    · obtain rfl : k = 6 := by omega
      go_wp2
      go_ret
      exact ⟨rfl, HRN.out.n⟩
end Go.Proofs.Ytcppibjllaablaa.drr

/-
  drr: flows 0 .. n-1, each of which has a head: Choose stays, or goes to the next one. Pure; the rows that the laws build.
-/
namespace Go.Proofs.Ytcppibjllaablaa.drr
open Go.RowKit mem Go.Maps
set_option linter.unusedVariables false

def natL (n : Nat) : List Int := (List.range n).map Int.ofNat
theorem natL_len (n : Nat) : (natL n).length = n := by simp [natL]
theorem natL_mem {n : Nat} {x : Int} : x ∈ natL n ↔ ∃ i : Nat, i < n ∧ (i : Int) = x := by
  unfold natL
  rw [List.mem_map]
  constructor
  · rintro ⟨i, hi, e⟩
    exact ⟨i, List.mem_range.1 hi, e⟩
  · rintro ⟨i, hi, e⟩
    exact ⟨i, List.mem_range.2 hi, e⟩
theorem natL_succ (n : Nat) : natL (n + 1) = natL n ++ [(n : Int)] := by
  unfold natL
  rw [List.range_succ, List.map_append]; rfl
theorem natL_asc (n : Nat) : (natL n).Pairwise (· < ·) := by
  induction n with
  | zero => exact List.Pairwise.nil
  | succ n ih =>
    rw [natL_succ, List.pairwise_append]
    refine ⟨ih, List.pairwise_singleton _ _, fun x hx y hy => ?_⟩
    obtain ⟨i, hi, rfl⟩ := natL_mem.1 hx
    simp at hy; subst hy
    omega
theorem natL_get (n j : Nat) (h : j < n) : (natL n).getD j 0 = (j : Int) := by
  unfold natL
  rw [List.getD_eq_getElem?_getD, List.getElem?_map, List.getElem?_range h]; rfl
theorem natL_count (n j : Nat) (h : j ≤ n) : (natL n).countP (fun x => decide (x < (j : Int))) = j := by
  induction n with
  | zero =>
    have : j = 0 := by omega
    subst this; rfl
  | succ n ih =>
    rw [natL_succ, List.countP_append]
    by_cases e : j ≤ n
    · rw [ih e, List.countP_cons, decide_eq_false (by omega)]
      simp
    · have hj : j = n + 1 := by omega
      subst hj
      have h1 : ∀ m : Nat, m ≤ n + 1 → (natL m).countP (fun x => decide (x < ((n + 1 : Nat) : Int))) = m := by
        intro m hm
        induction m with
        | zero => rfl
        | succ m ihm =>
          rw [natL_succ, List.countP_append, ihm (by omega), List.countP_cons, decide_eq_true (by push_cast; omega)]
          simp
      rw [h1 n (by omega), List.countP_cons, decide_eq_true (by push_cast; omega)]
      simp
theorem next_full (n j : Nat) (h : j < n) : nextId (natL n) (j : Int) = (((j + 1) % n : Nat) : Int) := by
  unfold nextId
  have hm : (j : Int) ∈ natL n := natL_mem.2 ⟨j, h, rfl⟩
  rw [natL_count n j (by omega), if_pos hm, natL_len]
  exact natL_get n _ (Nat.mod_lt _ (by omega))

/-- a head for each of the flows 0 .. n-1 -/
def hsN (n : Nat) (z : Nat → Int) : Hs := (List.range n).map (fun (i : Nat) => ((i : Int), z i))
theorem hsN_ids (n : Nat) (z : Nat → Int) : ids (hsN n z) = natL n := by
  unfold ids hsN natL
  rw [List.map_map]; rfl
theorem hsN_len (n : Nat) (z : Nat → Int) : (hsN n z).length = n := by
  unfold hsN
  rw [List.length_map, List.length_range]
theorem hsN_succ (n : Nat) (z : Nat → Int) : hsN (n + 1) z = hsN n z ++ [((n : Int), z n)] := by
  unfold hsN
  rw [List.range_succ, List.map_append]; rfl
theorem hsN_get {n : Nat} {z : Nat → Int} {j : Nat} (h : j < n) : (hsN n z)[j]? = some ((j : Int), z j) := by
  unfold hsN
  rw [List.getElem?_map, List.getElem?_range h]; rfl
theorem hsN_mem {n : Nat} {z : Nat → Int} {x : Int × Int} (h : x ∈ hsN n z) : ∃ i : Nat, i < n ∧ x = ((i : Int), z i) := by
  obtain ⟨i, hi, e⟩ := List.mem_map.1 h
  exact ⟨i, List.mem_range.1 hi, e.symm⟩
theorem hsN_size {n : Nat} {z : Nat → Int} {j : Nat} (h : j < n) : sizeOf' (hsN n z) (j : Int) = z j := by
  have h1 : (j : Int) ∈ ids (hsN n z) := by rw [hsN_ids]; exact natL_mem.2 ⟨j, h, rfl⟩
  obtain ⟨i, hi, e⟩ := hsN_mem (sizeOf_mem h1)
  injection e with e1 e2
  have : i = j := by omega
  subst this
  exact e2

/-- flows 0 .. n-1, and no other one; whose turn it is -/
structure Fu (n : Nat) (m : Int) (s : Sc) (t : Nat) : Prop where
  mo : s.most = m
  id : s.L.map (·.id) = natL n
  tu : s.turn = (t : Int)
theorem Fu.fl {n : Nat} {m : Int} {s : Sc} {t : Nat} (h : Fu n m s t) {i : Nat} (hi : i < n) : ∃ f ∈ s.L, f.id = (i : Int) := by
  have : (i : Int) ∈ s.L.map (·.id) := by rw [h.id]; exact natL_mem.2 ⟨i, hi, rfl⟩
  obtain ⟨f, hf, e⟩ := List.mem_map.1 this
  exact ⟨f, hf, e⟩
theorem Fu.ok {n : Nat} {m : Int} {s : Sc} {t : Nat} (h : Fu n m s t) {z : Nat → Int} (hz : ∀ i, i < n → 0 ≤ z i ∧ z i ≤ m) : Ok s (hsN n z) :=
  ⟨by rw [hsN_ids]; exact natL_asc n, (fun x hx => by obtain ⟨i, hi, rfl⟩ := hsN_mem hx; exact h.fl hi), (fun x hx => by obtain ⟨i, hi, rfl⟩ := hsN_mem hx; rw [h.mo]; exact hz i hi)⟩
theorem Fu.none {n : Nat} {m : Int} {s : Sc} {t : Nat} (h : Fu n m s t) : fnd s.L (n : Int) = none := by
  cases hx : fnd s.L (n : Int) with
  | none => rfl
  | some f =>
    obtain ⟨h1, h2⟩ := fnd_some hx
    have : f.id ∈ s.L.map (·.id) := List.mem_map.2 ⟨f, h1, rfl⟩
    rw [h.id, h2] at this
    obtain ⟨i, hi, e⟩ := natL_mem.1 this
    omega
theorem Fu.add {n : Nat} {m : Int} {s : Sc} {t : Nat} (h : Fu n m s t) (b : Nat) (sh : Int) : Fu (n + 1) m (addS s (n : Int) b sh) t :=
  ⟨h.mo, by show (s.L ++ [_]).map _ = _; rw [List.map_append, h.id, natL_succ]; rfl, h.tu⟩
theorem Fu.sim {n : Nat} {m : Int} {s s' : Sc} {t t' : Nat} (h : Fu n m s t) (k : Sim s s') (ht : s'.turn = (t' : Int)) : Fu n m s' t' := by
  obtain ⟨e, F, e2⟩ := k
  refine ⟨e.trans h.mo, ?_, ht⟩
  rw [e2]
  show (s.L.map _).map _ = _
  rw [List.map_map]
  exact h.id
theorem beg_full {n : Nat} {m : Int} {s : Sc} {t : Nat} (h : Fu n m s t) (z : Nat → Int) : begS (hsN n z) s = s := by
  unfold begS
  have : upd s.L (forgetF (hsN n z)) = s.L := upd_same _ _ (fun f hf => by
    unfold forgetF
    rw [if_pos]
    rw [hsN_ids, ← h.id]
    exact List.mem_map.2 ⟨f, hf, rfl⟩)
  rw [this]
theorem hs_ne {n : Nat} {z : Nat → Int} (hn : 0 < n) : hsN n z ≠ [] := fun e => by
  have := hsN_len n z
  rw [e] at this; simp at this; omega
/-- Choose, told by whether the flow whose turn it is has enough -/
theorem choose_full {n : Nat} {m : Int} {s : Sc} {t : Nat} (h : Fu n m s t) (z : Nat → Int) (ht : t < n) :
    chooseS (hsN n z) s = if leftOf (grantS s) (t : Int) < z t then grantS ⟨s.most, (grantS s).L, (((t + 1) % n : Nat) : Int), false⟩ else grantS s := by
  have e1 : chooseS (hsN n z) s = runS (hsN n z) (firS (hsN n z) s) := by
    have := hs_ne (z := z) (show 0 < n by omega)
    cases hx : hsN n z with
    | nil => exact absurd hx this
    | cons _ _ => rfl
  have e2 : firS (hsN n z) s = s := by
    unfold firS
    rw [if_pos (by rw [hsN_ids, h.tu]; exact natL_mem.2 ⟨t, ht, rfl⟩)]
    exact beg_full h z
  rw [e1, e2]
  unfold runS lowS
  rw [h.tu, hsN_size ht]
  by_cases hlow : leftOf (grantS s) (t : Int) < z t
  · rw [decide_eq_true hlow, if_pos rfl, if_pos hlow]
    unfold passS
    rw [(grant_turn s).1, (grant_turn s).2.1, h.tu, hsN_ids, next_full n t ht]
  · rw [decide_eq_false hlow, if_neg (by decide), if_neg hlow]
theorem choose_turn {n : Nat} {m : Int} {s : Sc} {t : Nat} (h : Fu n m s t) (z : Nat → Int) (ht : t < n) :
    ∃ t' : Nat, (t' = t ∨ t' = (t + 1) % n) ∧ (chooseS (hsN n z) s).turn = (t' : Int) := by
  rw [choose_full h z ht]
  split
  · exact ⟨_, .inr rfl, (grant_turn _).1⟩
  · exact ⟨t, .inl rfl, (grant_turn _).1.trans h.tu⟩

/-! ### rows -/
def HE : Enc (Int × Int) := ⟨2, fun x => [.int .i64 x.1, .int .i64 x.2], fun _ => rfl, fun x u hu => by
  simp at hu
  rcases hu with rfl | rfl <;> rfl⟩
theorem infoH : (Try.prog.info? HT).map (fun i => (i.zero, i.size, i.bytes)) = some (some (.agg #[.int .i64 0, .int .i64 0]), 2, 16) := by kernel_rfl
theorem infoI : (Try.prog.info? 3).map (fun i => (i.zero, i.size, i.bytes)) = some (some (.int .i64 0), 1, 8) := by kernel_rfl
theorem hrow_owns {w : World} {v : Value} {l : Hs} (h : Owns HE HT w v l) : HRow w v l := by
  obtain ⟨ao, c, rfl, hc, hr, _⟩ := h.form
  refine ⟨ao, c, rfl, hc, ?_⟩
  rcases hr with e | ⟨g, e, hg, hcell⟩
  · exact .inl e
  · refine .inr ⟨g, 0, e, hg, fun j x hj => ?_⟩
    have h0 := hcell j x hj 0 _ rfl
    have h1 := hcell j x hj 1 _ rfl
    rw [Nat.zero_add]
    exact ⟨h0, h1⟩
/-- a schedule, and a row beside it -/
structure Wr {α : Type} (E : Enc α) (T : TypeId) (w wr : World) (p mb : Nat) (s : Sc) (v : Value) (l : List α) : Prop where
  own : Owns E T wr v l
  vb : ∀ g, v.ownBlock = some g → w.heap.size ≤ g
  off : ∀ g, v.ownBlock = some g → ¬ Foot p mb s g
section
variable {α : Type} {E : Enc α} {T : TypeId} {w wr w2 : World} {p mb : Nat} {s s' : Sc} {v v' : Value} {l : List α}
theorem Wr.later (h : Wr E T w wr p mb s v l) (n : New wr w2) : Wr E T w w2 p mb s v l := ⟨h.own.turns n (fun _ _ h => h), h.vb, h.off⟩
theorem Wr.call (h : Wr E T w wr p mb s v l) (t : Turns (Foot p mb s) wr w2) (sim : Sim s s') : Wr E T w w2 p mb s' v l :=
  ⟨h.own.turns t h.off, h.vb, fun g hg e => h.off g hg (sim.foot e)⟩
theorem Wr.add (h : Wr E T w wr p mb s v l) (t : Turns (· = mb) wr w2) (id sh : Int) : Wr E T w w2 p mb (addS s id wr.heap.size sh) v l :=
  ⟨h.own.turns t (fun g hg e => h.off g hg (.inr (.inl e))), h.vb, fun g hg e => by
    rcases e with e | e | ⟨f, hf, e⟩
    · exact h.off g hg (.inl e)
    · exact h.off g hg (.inr (.inl e))
    · rcases List.mem_append.1 hf with hf | hf
      · exact h.off g hg (.inr (.inr ⟨f, hf, e⟩))
      · simp at hf; subst hf
        have := h.own.lt g hg
        have e2 : wr.heap.size = g := e
        omega⟩
/-- something is appended -/
theorem Wr.push {u : List α} {o : Obj} {c : Nat} {D : DataW Unit} (h : Wr E T w wr p mb s v l) (hn : New w wr) (hs : Ss wr p mb c D s) (ho : Owns E T w2 v' (l ++ u)) (hg : (wr.alloc o).grownBy w2 v.ownBlock) (ha : v'.ownBlock = v.ownBlock ∨ v'.ownBlock = some (wr.alloc o).heap.size) : Wr E T w w2 p mb s v' (l ++ u) := by
  have hsz : (wr.alloc o).heap.size = wr.heap.size + 1 := by unfold World.alloc; exact Array.size_push _
  refine ⟨ho, fun g hg => ?_, fun g hg e => ?_⟩
  · rcases ha with e | e
    · exact h.vb g (by rw [← e]; exact hg)
    · rw [e] at hg; injection hg with hg
      have := hn.size; omega
  · rcases ha with e2 | e2
    · exact h.off g (by rw [← e2]; exact hg) e
    · rw [e2] at hg; injection hg with hg
      have := hs.foot g e; omega
end
/-- the schedule behind an append -/
theorem Rn.push {α : Type} {E : Enc α} {T : TypeId} {w wr w2 : World} {p mb c : Nat} {D : DataW Unit} {s : Sc} {v : Value} {l : List α} {o : Obj} (h : Rn w wr p mb c D s) (hw : Wr E T w wr p mb s v l) (hg : (wr.alloc o).grownBy w2 v.ownBlock) : Rn w w2 p mb c D s ∧ Turns (fun k => some k = v.ownBlock) wr w2 := by
  have t := Gr.turned hg
  exact ⟨⟨h.ss.turns t (fun e => hw.off p e.symm (.inl rfl)) (fun e => hw.off mb e.symm (.inr (.inl rfl))) (fun f hf e => hw.off f.b e.symm (.inr (.inr ⟨f, hf, rfl⟩))), h.n.trans (t.mono (fun i _ hi => .inr (hw.vb i hi.symm))), h.p0, h.m0, h.f0⟩, t⟩
end Go.Proofs.Ytcppibjllaablaa.drr

/-
  egress.Out in memory: flows, each with its queue; the schedule; what a call on a part leaves of the rest.
-/
namespace Go.Proofs.Ytcppibjllaablaa.egr
open Go.RowKit mem Go.Maps
set_option linter.unusedVariables false

abbrev OB : TypeId := 140
abbrev GB : TypeId := 142
abbrev MT : TypeId := 138
abbrev New (w w' : World) : Prop := Turns (fun _ => False) w w'
theorem zeroP (w : World) : (zeroValue 136).run Try.prog w = .ok (.pointer none) w := by kernel_rfl

/-- a flow: its number, the block that holds it, is it of pictures, its queue -/
structure Ef where
  id : Int
  fb : Nat
  video : Bool
  qb : Nat
  pv : Value
  q : que.Q
structure Eo where
  frames : Int
  bytes : Int
  age : Int
  most : Int
  guard : Int
  credit : Int
  row : Int
  L : List Ef
  s : drr.Sc
/-- where an outlet lies -/
structure Ad where
  o : Nat
  mb : Nat
  sp : Nat
  smb : Nat
def fnd (L : List Ef) (id : Int) : Option Ef := L.find? (fun f => f.id == id)
theorem fnd_some {L : List Ef} {id : Int} {f : Ef} (h : fnd L id = some f) : f ∈ L ∧ f.id = id := by
  refine ⟨List.mem_of_find?_eq_some h, ?_⟩
  have := List.find?_some h
  simpa using this
theorem fnd_none {L : List Ef} {id : Int} (h : fnd L id = none) : ∀ f ∈ L, f.id ≠ id := fun f hf e => by
  have := List.find?_eq_none.1 h f hf
  simp [e] at this
/-- nothing in common -/
def Apart (f g : Ef) : Prop := f.id ≠ g.id ∧ f.fb ≠ g.fb ∧ f.qb ≠ g.qb ∧ ∀ x, f.pv.ownBlock = some x → g.pv.ownBlock ≠ some x
theorem Apart.symm {f g : Ef} (h : Apart f g) : Apart g f := ⟨fun e => h.1 e.symm, fun e => h.2.1 e.symm, fun e => h.2.2.1 e.symm, fun x e1 e2 => h.2.2.2 x e2 e1⟩
def Ap (L : List Ef) : Prop := L.Pairwise Apart
theorem Ap.two {L : List Ef} (h : Ap L) : ∀ {f g : Ef}, f ∈ L → g ∈ L → f = g ∨ Apart f g := by
  induction L with
  | nil => intro f g hf; cases hf
  | cons x l ih =>
    have hp := List.pairwise_cons.1 h
    intro f g hf hg
    rcases List.mem_cons.1 hf with hf | hf <;> rcases List.mem_cons.1 hg with hg | hg
    · exact .inl (by rw [hf, hg])
    · rw [hf]; exact .inr (hp.1 g hg)
    · rw [hg]; exact .inr (hp.1 f hf).symm
    · exact ih hp.2 hf hg
theorem Ap.fnd {L : List Ef} (h : Ap L) {f : Ef} (hf : f ∈ L) : fnd L f.id = some f := by
  unfold egr.fnd
  cases hx : L.find? (fun g => g.id == f.id) with
  | none =>
    have := List.find?_eq_none.1 hx f hf
    simp at this
  | some g =>
    obtain ⟨h1, h2⟩ := fnd_some (L := L) (id := f.id) hx
    rcases h.two h1 hf with e | e
    · rw [e]
    · exact absurd h2 e.1
abbrev cells (e : Eo) (A : Ad) : Array Value := #[.int .i64 e.frames, .int .i64 e.bytes, .int .i64 e.age, .int .i64 e.most, .int .i64 e.guard, .map (some A.mb), .pointer (some ⟨A.sp, 0, none⟩), .int .i64 e.credit, .int .i64 e.row]
abbrev fcells (f : Ef) : Array Value := #[.pointer (some ⟨f.qb, 0, none⟩), .bool f.video]
/-- the map of the flows -/
structure Rd (D : DataW Unit) (L : List Ef) : Prop where
  has : ∀ id, has D (.int .i64 id) = (fnd L id).isSome
  at_ : ∀ f ∈ L, ∀ z, D.atKey (.int .i64 f.id) z = .lit (.int .i64 (f.fb : Int))
structure Cf (e : Eo) : Prop where
  f0 : 1 ≤ e.frames
  f1 : e.frames ≤ 1024
  b0 : 1 ≤ e.bytes
  b1 : e.bytes ≤ 16777216
  a0 : 1 ≤ e.age
  a1 : e.age ≤ 1099511627776
  m0 : 1 ≤ e.most
  m1 : e.most ≤ 16777216
  g0 : 1 ≤ e.guard
  g1 : e.guard ≤ 1024
  c0 : 0 ≤ e.credit
  c1 : e.credit ≤ 1099511627776
/-- what a flow's queue keeps -/
structure Fq (e : Eo) (f : Ef) : Prop where
  fr : f.q.frames = e.frames
  mo : f.q.most = e.bytes
  sz : ∀ x ∈ f.q.L, x.size ≤ e.most
structure Es (w : World) (A : Ad) (k : Nat) (e : Eo) : Prop where
  blk : Blk w A.o (cells e A) OB
  map : ∃ c D, c ≤ k ∧ w.ownsMap Try.prog 3 drr.ptrE A.mb c D ∧ Rd D e.L
  fb : ∀ f ∈ e.L, Blk w f.fb (fcells f) GB
  qs : ∀ f ∈ e.L, que.Qs w f.qb f.pv f.q
  sch : ∃ c D, c ≤ k ∧ drr.Ss w A.sp A.smb c D e.s
  ap : Ap e.L
  mm : A.mb ≠ A.smb
  rg : ∀ f ∈ e.L, -9223372036854775808 ≤ f.id ∧ f.id ≤ 9223372036854775807
  cf : Cf e
  fq : ∀ f ∈ e.L, Fq e f
  sm : e.s.most = e.most
  vs : ∀ id, (∃ f ∈ e.s.L, f.id = id) ↔ ∃ f ∈ e.L, f.id = id ∧ f.video = true

/-! ### blocks of other types are other blocks -/
theorem blk_ne {w : World} {p r : Nat} {cs ds : Array Value} {T U : TypeId} (h : Blk w p cs T) (k : Blk w r ds U) (hT : T ≠ U) : p ≠ r := by
  rintro rfl
  unfold Blk at h k
  rw [h] at k
  injection k with k
  injection k with _ k
  exact hT k
theorem own_ne {α : Type} {E : Enc α} {w : World} {r : Nat} {v : Value} {l : List α} {ds : Array Value} {T U : TypeId} (h : Owns E T w v l) (k : Blk w r ds U) (hT : T ≠ U) : v.ownBlock ≠ some r := by
  intro e
  rcases h.2 with ⟨rfl, _⟩ | ⟨g, cap, cur, rfl, _, hb, _⟩
  · simp [Value.ownBlock] at e
  · have : g = r := by simpa [Value.ownBlock] using e
    subst this
    unfold Blk at k
    rw [hb] at k
    injection k with k
    injection k with _ k
    exact hT k
section
variable {w w' : World} {A : Ad} {k : Nat} {e : Eo} (h : Es w A k e)
include h
theorem Es.lt : A.o < w.heap.size := h.blk.lt
theorem Es.later (n : New w w') : Es w' A k e := by
  obtain ⟨c, D, hc, hm, hr⟩ := h.map
  obtain ⟨c2, D2, hc2, hs⟩ := h.sch
  exact ⟨n.blk h.blk (fun h => h), ⟨c, D, hc, ownsMap_turns hm n (fun h => h), hr⟩, fun f hf => n.blk (h.fb f hf) (fun h => h), fun f hf => (h.qs f hf).later n, ⟨c2, D2, hc2, hs.later n⟩, h.ap, h.mm, h.rg, h.cf, h.fq, h.sm, h.vs⟩
theorem Es.more {k' : Nat} (hk : k ≤ k') : Es w A k' e := by
  obtain ⟨c, D, hc, hm, hr⟩ := h.map
  obtain ⟨c2, D2, hc2, hs⟩ := h.sch
  exact ⟨h.blk, ⟨c, D, by omega, hm, hr⟩, h.fb, h.qs, ⟨c2, D2, by omega, hs⟩, h.ap, h.mm, h.rg, h.cf, h.fq, h.sm, h.vs⟩
/-- the outlet's own cells turn -/
theorem Es.self {e' : Eo} (t : Turns (· = A.o) w w') (hb : Blk w' A.o (cells e' A) OB) (hL : e'.L = e.L) (hs : e'.s = e.s) (hm : e'.most = e.most) (hf : e'.frames = e.frames) (hby : e'.bytes = e.bytes) (cf : Cf e') : Es w' A k e' := by
  obtain ⟨c, D, hc, hmp, hr⟩ := h.map
  obtain ⟨c2, D2, hc2, hss⟩ := h.sch
  refine ⟨hb, ⟨c, D, hc, ownsMap_turns hmp t (ownsMap_ne hmp h.blk), by rw [hL]; exact hr⟩, fun f hf => ?_, fun f hf => ?_, ⟨c2, D2, hc2, ?_⟩, by rw [hL]; exact h.ap, h.mm, by rw [hL]; exact h.rg, cf, fun f hf' => ?_, by rw [hs, hm]; exact h.sm, by rw [hs, hL]; exact h.vs⟩
  · rw [hL] at hf
    exact t.blk (h.fb f hf) (fun e2 => blk_ne (h.fb f hf) h.blk (by decide) e2)
  · rw [hL] at hf
    exact (h.qs f hf).turns t (fun e2 => blk_ne (h.qs f hf).blk h.blk (by decide) e2) (fun g hg e2 => own_ne (h.qs f hf).own h.blk (by decide) (by rw [hg, e2]))
  · rw [hs]
    exact hss.turns t (fun e2 => blk_ne hss.blk h.blk (by decide) e2) (ownsMap_ne hss.map h.blk) (fun f hf e2 => blk_ne (hss.fb f hf) h.blk (by decide) e2)
  · rw [hL] at hf'
    have := h.fq f hf'
    exact ⟨this.fr.trans hf.symm, this.mo.trans hby.symm, by rw [hm]; exact this.sz⟩
/-- the schedule turns -/
theorem Es.sched {s' : drr.Sc} (hl : ∀ c D, drr.Ss w A.sp A.smb c D e.s → drr.Ss w' A.sp A.smb c D s' ∧ Turns (drr.Foot A.sp A.smb e.s) w w') (sim : drr.Sim e.s s') : Es w' A k ⟨e.frames, e.bytes, e.age, e.most, e.guard, e.credit, e.row, e.L, s'⟩ := by
  obtain ⟨c, D, hc, hmp, hr⟩ := h.map
  obtain ⟨c2, D2, hc2, hss⟩ := h.sch
  obtain ⟨hs', t⟩ := hl c2 D2 hss
  have off : ∀ {r : Nat} {cs : Array Value} {T : TypeId}, Blk w r cs T → T ≠ 111 → T ≠ 115 → ¬ drr.Foot A.sp A.smb e.s r := fun hb h1 h2 hk => by
    rcases hk with e2 | e2 | ⟨f, hf, e2⟩
    · exact blk_ne hb hss.blk h1 e2
    · exact ownsMap_ne hss.map hb e2.symm
    · exact blk_ne hb (hss.fb f hf) h2 e2.symm
  refine ⟨t.blk h.blk (off h.blk (by decide) (by decide)), ⟨c, D, hc, ownsMap_turns hmp t (fun hk => ?_), hr⟩, fun f hf => t.blk (h.fb f hf) (off (h.fb f hf) (by decide) (by decide)), fun f hf => (h.qs f hf).turns t (off (h.qs f hf).blk (by decide) (by decide)) (fun g hg hk => ?_), ⟨c2, D2, hc2, hs'⟩, h.ap, h.mm, h.rg, ⟨h.cf.f0, h.cf.f1, h.cf.b0, h.cf.b1, h.cf.a0, h.cf.a1, h.cf.m0, h.cf.m1, h.cf.g0, h.cf.g1, h.cf.c0, h.cf.c1⟩, fun f hf => ⟨(h.fq f hf).fr, (h.fq f hf).mo, (h.fq f hf).sz⟩, sim.1.trans h.sm, fun id => ?_⟩
  · rcases hk with e2 | e2 | ⟨f, hf, e2⟩
    · exact ownsMap_ne hmp hss.blk e2
    · exact h.mm e2
    · exact ownsMap_ne hmp (hss.fb f hf) e2.symm
  · rcases hk with e2 | e2 | ⟨f', hf', e2⟩
    · exact own_ne (h.qs f hf).own hss.blk (by decide) (by rw [hg, e2])
    · exact ownsMap_ne_row hss.map (h.qs f hf).own g hg e2.symm
    · exact own_ne (h.qs f hf).own (hss.fb f' hf') (by decide) (by rw [hg, e2])
  · rw [← h.vs id]
    obtain ⟨_, F, e2⟩ := sim
    constructor
    · rintro ⟨f, hf, hid⟩
      rw [show (Eo.s ⟨e.frames, e.bytes, e.age, e.most, e.guard, e.credit, e.row, e.L, s'⟩) = s' from rfl, e2] at hf
      obtain ⟨f', hf', rfl⟩ := drr.upd_mem hf
      exact ⟨f', hf', hid⟩
    · rintro ⟨f, hf, hid⟩
      show ∃ f ∈ s'.L, _
      rw [e2]
      exact ⟨_, drr.upd_mem' hf, hid⟩
end
/-- a flow's queue anew -/
def setQ (L : List Ef) (id : Int) (pv : Value) (q : que.Q) : List Ef := L.map (fun g => if g.id = id then ⟨g.id, g.fb, g.video, g.qb, pv, q⟩ else g)
theorem setQ_mem {L : List Ef} {id : Int} {pv : Value} {q : que.Q} {g : Ef} (h : g ∈ setQ L id pv q) : ∃ f ∈ L, g = if f.id = id then ⟨f.id, f.fb, f.video, f.qb, pv, q⟩ else f := by
  obtain ⟨f, hf, e⟩ := List.mem_map.1 h
  exact ⟨f, hf, e.symm⟩
theorem fnd_setQ (L : List Ef) (id x : Int) (pv : Value) (q : que.Q) : (fnd (setQ L id pv q) x).isSome = (fnd L x).isSome := by
  unfold fnd setQ
  induction L with
  | nil => rfl
  | cons f l ih =>
    rw [List.map_cons, List.find?_cons, List.find?_cons]
    have e : ((if f.id = id then (⟨f.id, f.fb, f.video, f.qb, pv, q⟩ : Ef) else f).id == x) = (f.id == x) := by split <;> rfl
    rw [e]
    split
    · rfl
    · exact ih
/-- a call on a flow's queue -/
theorem Es.queue {w w' : World} {A : Ad} {k : Nat} {e : Eo} (h : Es w A k e) {f : Ef} (hf : f ∈ e.L) {q' : que.Q} (hl : que.Lft w w' f.qb f.pv q') (hfr : q'.frames = f.q.frames) (hmo : q'.most = f.q.most) (hsz : ∀ x ∈ q'.L, x.size ≤ e.most) :
    ∃ pv', (pv'.ownBlock = f.pv.ownBlock ∨ ∃ g, pv'.ownBlock = some g ∧ w.heap.size ≤ g) ∧ Es w' A k ⟨e.frames, e.bytes, e.age, e.most, e.guard, e.credit, e.row, setQ e.L f.id pv' q', e.s⟩ := by
  obtain ⟨c, D, hc, hmp, hr⟩ := h.map
  obtain ⟨c2, D2, hc2, hss⟩ := h.sch
  obtain ⟨⟨pv', hq', hloc⟩, t⟩ := hl
  have hqf := h.qs f hf
  have off : ∀ {r : Nat} {cs : Array Value} {T : TypeId}, Blk w r cs T → T ≠ 108 → T ≠ 37 → ¬ que.Foot f.qb f.pv r := fun hb h1 h2 hk => by
    rcases hk with e2 | e2
    · exact blk_ne hb hqf.blk h1 e2
    · exact own_ne hqf.own hb (fun e3 => h2 e3.symm) e2
  have same : ∀ g ∈ e.L, g.id = f.id → g = f := fun g hg e2 => by
    rcases h.ap.two hg hf with e3 | e3
    · exact e3
    · exact absurd e2 e3.1
  have part : ∀ g ∈ e.L, g.id ≠ f.id → Apart g f := fun g hg e2 => by
    rcases h.ap.two hg hf with e3 | e3
    · exact absurd (by rw [e3]) e2
    · exact e3
  refine ⟨pv', hloc, t.blk h.blk (off h.blk (by decide) (by decide)), ⟨c, D, hc, ownsMap_turns hmp t (fun hk => ?_), ⟨fun id => by rw [hr.has id]; exact (fnd_setQ _ _ _ _ _).symm, fun g hg z => ?_⟩⟩, fun g hg => ?_, fun g hg => ?_, ⟨c2, D2, hc2, hss.turns t (off hss.blk (by decide) (by decide)) (fun hk => ?_) (fun g hg => off (hss.fb g hg) (by decide) (by decide))⟩, ?_, h.mm, fun g hg => ?_, ⟨h.cf.f0, h.cf.f1, h.cf.b0, h.cf.b1, h.cf.a0, h.cf.a1, h.cf.m0, h.cf.m1, h.cf.g0, h.cf.g1, h.cf.c0, h.cf.c1⟩, fun g hg => ?_, h.sm, fun id => ?_⟩
  · rcases hk with e2 | e2
    · exact ownsMap_ne hmp hqf.blk e2
    · exact ownsMap_ne_row hmp hqf.own _ e2 rfl
  · obtain ⟨g', hg', rfl⟩ := setQ_mem hg
    by_cases e2 : g'.id = f.id
    · rw [if_pos e2]; exact hr.at_ g' hg' z
    · rw [if_neg e2]; exact hr.at_ g' hg' z
  · obtain ⟨g', hg', rfl⟩ := setQ_mem hg
    have := t.blk (h.fb g' hg') (off (h.fb g' hg') (by decide) (by decide))
    by_cases e2 : g'.id = f.id
    · rw [if_pos e2]; exact this
    · rw [if_neg e2]; exact this
  · obtain ⟨g', hg', rfl⟩ := setQ_mem hg
    by_cases e2 : g'.id = f.id
    · rw [if_pos e2]
      have := same g' hg' e2
      subst this
      exact hq'
    · rw [if_neg e2]
      have hp := part g' hg' e2
      refine (h.qs g' hg').turns t (fun hk => ?_) (fun x hx hk => ?_)
      · rcases hk with e3 | e3
        · exact hp.2.2.1 e3
        · exact own_ne hqf.own (h.qs g' hg').blk (by decide) e3
      · rcases hk with e3 | e3
        · exact own_ne (h.qs g' hg').own hqf.blk (by decide) (by rw [hx, e3])
        · exact hp.2.2.2 x hx e3
  · rcases hk with e2 | e2
    · exact ownsMap_ne hss.map hqf.blk e2
    · exact ownsMap_ne_row hss.map hqf.own _ e2 rfl
  · show (e.L.map _).Pairwise _
    rw [List.pairwise_map]
    have hmem : e.L.Pairwise (fun a b => (a ∈ e.L ∧ b ∈ e.L) ∧ Apart a b) := by
      have := List.Pairwise.and_mem.1 h.ap
      exact this.imp (fun hx => ⟨⟨hx.1, hx.2.1⟩, hx.2.2⟩)
    refine hmem.imp (fun {a b} hab => ?_)
    obtain ⟨⟨ha, hb⟩, hp⟩ := hab
    have fresh : ∀ g ∈ e.L, g.id ≠ f.id → ∀ x, g.pv.ownBlock = some x → pv'.ownBlock ≠ some x := fun g hg hne x hx hx' => by
      rcases hloc with e3 | ⟨y, e3, hy⟩
      · exact (part g hg hne).2.2.2 x hx (by rw [← e3]; exact hx')
      · rw [e3] at hx'; injection hx' with hx'
        have := (h.qs g hg).own.lt x hx
        omega
    by_cases e1 : a.id = f.id
    · have e2 : ¬ b.id = f.id := fun e2 => hp.1 (by rw [e1, e2])
      rw [if_pos e1, if_neg e2]
      exact ⟨hp.1, hp.2.1, hp.2.2.1, fun x hx hx' => fresh b hb e2 x hx' hx⟩
    · by_cases e2 : b.id = f.id
      · rw [if_neg e1, if_pos e2]
        exact ⟨hp.1, hp.2.1, hp.2.2.1, fun x hx hx' => fresh a ha e1 x hx hx'⟩
      · rw [if_neg e1, if_neg e2]; exact hp
  · obtain ⟨g', hg', rfl⟩ := setQ_mem hg
    by_cases e2 : g'.id = f.id
    · rw [if_pos e2]; exact h.rg g' hg'
    · rw [if_neg e2]; exact h.rg g' hg'
  · obtain ⟨g', hg', rfl⟩ := setQ_mem hg
    by_cases e2 : g'.id = f.id
    · rw [if_pos e2]
      have := h.fq f hf
      exact ⟨hfr.trans this.fr, hmo.trans this.mo, hsz⟩
    · rw [if_neg e2]
      have := h.fq g' hg'
      exact ⟨this.fr, this.mo, this.sz⟩
  · rw [h.vs id]
    constructor
    · rintro ⟨g, hg, hid, hv⟩
      refine ⟨_, List.mem_map.2 ⟨g, hg, rfl⟩, ?_, ?_⟩
      · split <;> exact hid
      · split <;> exact hv
    · rintro ⟨g, hg, hid, hv⟩
      obtain ⟨g', hg', rfl⟩ := setQ_mem hg
      refine ⟨g', hg', ?_, ?_⟩
      · split at hid <;> exact hid
      · split at hv <;> exact hv
end Go.Proofs.Ytcppibjllaablaa.egr

/-
  egress.Out: Check, New, Credit, Broken, Spend.
-/
namespace Go.Proofs.Ytcppibjllaablaa.egr
open Go.RowKit mem Go.Maps
set_option linter.unusedVariables false

abbrev CT : TypeId := 71
def Va (a b c d g : Int) : Prop := (1 ≤ a ∧ a ≤ 1024) ∧ (1 ≤ b ∧ b ≤ 16777216) ∧ (1 ≤ c ∧ c ≤ 1099511627776) ∧ (1 ≤ d ∧ d ≤ 16777216) ∧ (1 ≤ g ∧ g ≤ 1024)
theorem five {w : World} {p : Nat} {a b c d e : Value} {T : TypeId} (h : Blk w p #[a, b, c, d, e] T) :
    w.cell? ⟨p, 0, none⟩ = some a ∧ w.cell? ⟨p, 1, none⟩ = some b ∧ w.cell? ⟨p, 2, none⟩ = some c ∧ w.cell? ⟨p, 3, none⟩ = some d ∧ w.cell? ⟨p, 4, none⟩ = some e := ⟨h.cell 0, h.cell 1, h.cell 2, h.cell 3, h.cell 4⟩
theorem nine {w : World} {p : Nat} {a b c d e f g h i : Value} {T : TypeId} (k : Blk w p #[a, b, c, d, e, f, g, h, i] T) :
    (w.cell? ⟨p, 0, none⟩ = some a ∧ w.cell? ⟨p, 1, none⟩ = some b ∧ w.cell? ⟨p, 2, none⟩ = some c ∧ w.cell? ⟨p, 3, none⟩ = some d ∧ w.cell? ⟨p, 4, none⟩ = some e ∧ w.cell? ⟨p, 5, none⟩ = some f ∧ w.cell? ⟨p, 6, none⟩ = some g ∧ w.cell? ⟨p, 7, none⟩ = some h ∧ w.cell? ⟨p, 8, none⟩ = some i)
    ∧ w.frozen? ⟨p, 7, none⟩ = false ∧ w.frozen? ⟨p, 8, none⟩ = false :=
  ⟨⟨k.cell 0, k.cell 1, k.cell 2, k.cell 3, k.cell 4, k.cell 5, k.cell 6, k.cell 7, k.cell 8⟩, k.free 7, k.free 8⟩
abbrev cfg (a b c d g : Int) : Array Value := #[.int .i64 a, .int .i64 b, .int .i64 c, .int .i64 d, .int .i64 g]
set_option maxRecDepth 10000 in
set_option maxHeartbeats 2000000 in
theorem check_bad (a b c d g : Int) (w : World) (h : ¬ Va a b c d g) :
    Calls Try.prog 32 #[.agg (cfg a b c d g)] w fun e w' => e = .returned (.int .i64 5) ∧ New w w' := by
  have hb : Blk (w.alloc (.cells (cfg a b c d g) CT)) w.heap.size (cfg a b c d g) CT := Blk.new _ _ _
  obtain ⟨c0, c1, c2, c3, c4⟩ := five hb
  have HN : Hid (New w (w.alloc (.cells (cfg a b c d g) CT))) := Lib.hid ((Turns.refl _ _).alloc _)
  clear hb
  go_enter Try.func32, Try.ntmps32
  by_cases l0 : a < 1
  · have dl0 : decide (a < 1) = true := decide_eq_true l0
    clear h l0
    go_wp2
    go_ret
    exact ⟨rfl, HN.out⟩
  · have dl0 : decide (a < 1) = false := decide_eq_false l0
    by_cases u0 : 1024 < a
    · have du0 : decide (1024 < a) = true := decide_eq_true u0
      clear h u0
      go_wp2
      go_ret
      exact ⟨rfl, HN.out⟩
    · have du0 : decide (1024 < a) = false := decide_eq_false u0
      by_cases l1 : b < 1
      · have dl1 : decide (b < 1) = true := decide_eq_true l1
        clear h l1
        go_wp2
        go_ret
        exact ⟨rfl, HN.out⟩
      · have dl1 : decide (b < 1) = false := decide_eq_false l1
        by_cases u1 : 16777216 < b
        · have du1 : decide (16777216 < b) = true := decide_eq_true u1
          clear h u1
          go_wp2
          go_ret
          exact ⟨rfl, HN.out⟩
        · have du1 : decide (16777216 < b) = false := decide_eq_false u1
          by_cases l2 : c < 1
          · have dl2 : decide (c < 1) = true := decide_eq_true l2
            clear h l2
            go_wp2
            go_ret
            exact ⟨rfl, HN.out⟩
          · have dl2 : decide (c < 1) = false := decide_eq_false l2
            by_cases u2 : 1099511627776 < c
            · have du2 : decide (1099511627776 < c) = true := decide_eq_true u2
              clear h u2
              go_wp2
              go_ret
              exact ⟨rfl, HN.out⟩
            · have du2 : decide (1099511627776 < c) = false := decide_eq_false u2
              by_cases l3 : d < 1
              · have dl3 : decide (d < 1) = true := decide_eq_true l3
                clear h l3
                go_wp2
                go_ret
                exact ⟨rfl, HN.out⟩
              · have dl3 : decide (d < 1) = false := decide_eq_false l3
                by_cases u3 : 16777216 < d
                · have du3 : decide (16777216 < d) = true := decide_eq_true u3
                  clear h u3
                  go_wp2
                  go_ret
                  exact ⟨rfl, HN.out⟩
                · have du3 : decide (16777216 < d) = false := decide_eq_false u3
                  by_cases l4 : g < 1
                  · have dl4 : decide (g < 1) = true := decide_eq_true l4
                    clear h l4
                    go_wp2
                    go_ret
                    exact ⟨rfl, HN.out⟩
                  · have dl4 : decide (g < 1) = false := decide_eq_false l4
                    by_cases u4 : 1024 < g
                    · have du4 : decide (1024 < g) = true := decide_eq_true u4
                      clear h u4
                      go_wp2
                      go_ret
                      exact ⟨rfl, HN.out⟩
                    · have du4 : decide (1024 < g) = false := decide_eq_false u4
                      exact absurd ⟨⟨by omega, by omega⟩, ⟨by omega, by omega⟩, ⟨by omega, by omega⟩, ⟨by omega, by omega⟩, by omega, by omega⟩ h
set_option maxRecDepth 10000 in
set_option maxHeartbeats 1000000 in
theorem check_ok (a b c d g : Int) (w : World) (h : Va a b c d g) :
    Calls Try.prog 32 #[.agg (cfg a b c d g)] w fun e w' => e = .returned (.int .i64 0) ∧ New w w' := by
  have hb : Blk (w.alloc (.cells (cfg a b c d g) CT)) w.heap.size (cfg a b c d g) CT := Blk.new _ _ _
  obtain ⟨c0, c1, c2, c3, c4⟩ := five hb
  have HN : Hid (New w (w.alloc (.cells (cfg a b c d g) CT))) := Lib.hid ((Turns.refl _ _).alloc _)
  obtain ⟨⟨a0, a1⟩, ⟨b0, b1⟩, ⟨x0, x1⟩, ⟨d0, d1⟩, g0, g1⟩ := h
  have dl0 : decide (a < 1) = false := decide_eq_false (by omega)
  have du0 : decide (1024 < a) = false := decide_eq_false (by omega)
  have dl1 : decide (b < 1) = false := decide_eq_false (by omega)
  have du1 : decide (16777216 < b) = false := decide_eq_false (by omega)
  have dl2 : decide (c < 1) = false := decide_eq_false (by omega)
  have du2 : decide (1099511627776 < c) = false := decide_eq_false (by omega)
  have dl3 : decide (d < 1) = false := decide_eq_false (by omega)
  have du3 : decide (16777216 < d) = false := decide_eq_false (by omega)
  have dl4 : decide (g < 1) = false := decide_eq_false (by omega)
  have du4 : decide (1024 < g) = false := decide_eq_false (by omega)
  clear hb a0 a1 b0 b1 x0 x1 d0 d1 g0 g1
  go_enter Try.func32, Try.ntmps32
  go_wp2
  go_ret
  exact ⟨rfl, HN.out⟩

def fresh (a b c d g : Int) : Eo := ⟨a, b, c, d, g, 0, 0, [], drr.fresh d⟩
structure Made (w w' : World) (A : Ad) (k : Nat) (e : Eo) : Prop where
  es : Es w' A k e
  n : New w w'
  o0 : w.heap.size ≤ A.o
  m0 : w.heap.size ≤ A.mb
  s0 : w.heap.size ≤ A.sp
  t0 : w.heap.size ≤ A.smb
  f0 : ∀ f ∈ e.L, w.heap.size ≤ f.fb ∧ w.heap.size ≤ f.qb ∧ ∀ x, f.pv.ownBlock = some x → w.heap.size ≤ x
  g0 : ∀ f ∈ e.s.L, w.heap.size ≤ f.b
theorem Made.later {w w1 w2 : World} {A : Ad} {k : Nat} {e : Eo} (h : Made w w1 A k e) (n : New w1 w2) : Made w w2 A k e :=
  ⟨h.es.later n, h.n.trans (n.mono (fun _ _ h => h.elim)), h.o0, h.m0, h.s0, h.t0, h.f0, h.g0⟩
set_option maxRecDepth 10000 in
theorem new_bad (a b c d g : Int) (w : World) (h : ¬ Va a b c d g) :
    Calls Try.prog 31 #[.agg (cfg a b c d g)] w fun e w' => e = .returned (.tuple #[.pointer none, .int .i64 5]) ∧ New w w' := by
  have hb : Blk (w.alloc (.cells (cfg a b c d g) CT)) w.heap.size (cfg a b c d g) CT := Blk.new _ _ _
  obtain ⟨c0, c1, c2, c3, c4⟩ := five hb
  have HC := Lib.hid (check_bad a b c d g (w.alloc (.cells (cfg a b c d g) CT)) h)
  have HN : Hid (New w (w.alloc (.cells (cfg a b c d g) CT))) := Lib.hid ((Turns.refl _ _).alloc _)
  clear hb h
  go_enter Try.func31, Try.ntmps31
  go_wp2_with fail
  refine HC.out.mono ?_
  rintro e w1 ⟨rfl, n1⟩
  have HN1 : Hid (New w w1) := Lib.hid (HN.out.trans (n1.mono (fun _ _ h => h.elim)))
  clear n1
  go_wp2
  go_ret2
  exact ⟨rfl, HN1.out⟩
set_option maxRecDepth 10000 in
set_option maxHeartbeats 1000000 in
theorem new_ok (a b c d g : Int) (w : World) (h : Va a b c d g) :
    Calls Try.prog 31 #[.agg (cfg a b c d g)] w fun e w' => ∃ A : Ad, e = .returned (.tuple #[.pointer (some ⟨A.o, 0, none⟩), .int .i64 0]) ∧ Made w w' A 0 (fresh a b c d g) := by
  have hmm := @run_makeMap Try.prog
  have hb : Blk (w.alloc (.cells (cfg a b c d g) CT)) w.heap.size (cfg a b c d g) CT := Blk.new _ _ _
  obtain ⟨c0, c1, c2, c3, c4⟩ := five hb
  have HB := Lib.hid hb
  have HC := Lib.hid (check_ok a b c d g (w.alloc (.cells (cfg a b c d g) CT)) h)
  have HN : Hid (New w (w.alloc (.cells (cfg a b c d g) CT))) := Lib.hid ((Turns.refl _ _).alloc _)
  have HV := Lib.hid h
  have HD := Lib.hid (fun W => drr.new_ok d W h.2.2.2.1.1 h.2.2.2.1.2)
  clear hb h
  go_enter Try.func31, Try.ntmps31
  go_wp2_with fail
  refine HC.out.mono ?_
  rintro e w1 ⟨rfl, n1⟩
  have HN1 : Hid (New w w1) := Lib.hid (HN.out.trans (n1.mono (fun _ _ h => h.elim)))
  have hb1 := n1.blk HB.out (fun h => h)
  have HB1 := Lib.hid hb1
  clear c0 c1 c2 c3 c4 n1 HC
  obtain ⟨c0, c1, c2, c3, c4⟩ := five hb1
  clear hb1 HB
  go_wp2_with fail
  refine (HD.out _).mono ?_
  rintro e w2 ⟨sp, rfl, hs, n2, hsp⟩
  have hb2 := n2.blk HB1.out (fun h => h)
  have HS := Lib.hid hs
  have HN2 : Hid (New w w2) := Lib.hid (HN1.out.trans (n2.mono (fun _ _ h => h.elim)))
  have HW1 : Hid (w.heap.size ≤ w1.heap.size ∧ w1.heap.size ≤ sp) := Lib.hid ⟨HN1.out.size, hsp⟩
  clear c0 c1 c2 c3 c4 n2 hs hsp
  obtain ⟨c0, c1, c2, c3, c4⟩ := five hb2
  clear hb2 HB1 HD
  generalize w1.heap.size = smb at *
  go_wp2
  go_ret2
  have e1 : (w2.alloc (.map #[] 0)).heap.size = w2.heap.size + 1 := by unfold World.alloc; exact Array.size_push _
  have hbo := Blk.new (w2.alloc (.map #[] 0)) (cells (fresh a b c d g) ⟨w2.heap.size + 1, w2.heap.size, sp, smb⟩) OB
  rw [e1] at hbo
  have k1 : New w2 ((w2.alloc (.map #[] 0)).alloc (.cells (cells (fresh a b c d g) ⟨w2.heap.size + 1, w2.heap.size, sp, smb⟩) OB)) := ((Turns.refl _ _).alloc _).alloc _
  have hml := HS.out.mlt
  have hn2 := HN2.out.size
  have hv := HV.out
  refine ⟨⟨w2.heap.size + 1, w2.heap.size, sp, smb⟩, rfl, ⟨hbo, ⟨0, .map [], Nat.le_refl _, (World.ownsMap_made _ _ _ _).alloc _, ⟨(fun id => rfl), (fun f hf => by cases hf)⟩⟩, (fun f hf => by cases hf), (fun f hf => by cases hf), ⟨0, .map [], Nat.le_refl _, HS.out.later k1⟩, List.Pairwise.nil, (by show w2.heap.size ≠ smb; omega), (fun f hf => by cases hf), ⟨hv.1.1, hv.1.2, hv.2.1.1, hv.2.1.2, hv.2.2.1.1, hv.2.2.1.2, hv.2.2.2.1.1, hv.2.2.2.1.2, hv.2.2.2.2.1, hv.2.2.2.2.2, Int.le_refl _, (by show (0 : Int) ≤ _; omega)⟩, (fun f hf => by cases hf), rfl, (fun id => ⟨(fun ⟨f, hf, _⟩ => by cases hf), (fun ⟨f, hf, _⟩ => by cases hf)⟩)⟩, HN2.out.trans (k1.mono (fun _ _ h => h.elim)), (by show w.heap.size ≤ w2.heap.size + 1; omega), hn2, (by have := HW1.out; show w.heap.size ≤ sp; omega), HW1.out.1, (fun f hf => by cases hf), (fun f hf => by cases hf)⟩

theorem credit (A : Ad) (k : Nat) (e : Eo) (w : World) (h : Es w A k e) : Calls Try.prog 35 #[.pointer (some ⟨A.o, 0, none⟩)] w fun x w' => x = .returned (.int .i64 e.credit) ∧ w' = w := by
  have c7 := h.blk.cell 7
  clear h
  go_enter Try.func35, Try.ntmps35
  go_wp2
  go_ret
  exact ⟨rfl, rfl⟩
section
variable {w : World} {mb c : Nat} {D : DataW Unit} {id : Int}
theorem look_ok_at (h : w.ownsMap Try.prog 3 drr.ptrE mb c D) (n0 : -9223372036854775808 ≤ id) (n1 : id ≤ 9223372036854775807) {b : Nat} (hb : ∀ z, D.atKey (.int .i64 id) z = .lit (.int .i64 b)) :
    (Instr.lookup MT (.map (some mb)) (.int .i64 id) true).run Try.prog w = .ok (.tuple #[.pointer (some ⟨b, 0, none⟩), .bool true]) w := by
  obtain ⟨v, ps, hrun, hv⟩ := h.look_ok drr.lawI Try.underlying138 (zeroP w) (zd := .lit (.int .i64 (-1))) (zp := []) rfl (drr.keyI n0 n1)
  rw [hb] at hv
  rw [drr.ptrE_inv hv, has_true_of_atKey hb] at hrun
  exact hrun
theorem look_ok_none (h : w.ownsMap Try.prog 3 drr.ptrE mb c D) (n0 : -9223372036854775808 ≤ id) (n1 : id ≤ 9223372036854775807) (hb : has D (.int .i64 id) = false) :
    (Instr.lookup MT (.map (some mb)) (.int .i64 id) true).run Try.prog w = .ok (.tuple #[.pointer none, .bool false]) w := by
  obtain ⟨v, ps, hrun, hv⟩ := h.look_ok drr.lawI Try.underlying138 (zeroP w) (zd := .lit (.int .i64 (-1))) (zp := []) rfl (drr.keyI n0 n1)
  rw [atKey_of_not_has hb] at hv
  rw [drr.ptrE_nil hv, hb] at hrun
  exact hrun
end
theorem Es.look {w : World} {A : Ad} {k : Nat} {e : Eo} (h : Es w A k e) {f : Ef} (hf : f ∈ e.L) : (Instr.lookup MT (.map (some A.mb)) (.int .i64 f.id) true).run Try.prog w = .ok (.tuple #[.pointer (some ⟨f.fb, 0, none⟩), .bool true]) w := by
  obtain ⟨c, D, _, hm, hr⟩ := h.map
  exact look_ok_at hm (h.rg f hf).1 (h.rg f hf).2 (hr.at_ f hf)
theorem Es.look_none {w : World} {A : Ad} {k : Nat} {e : Eo} (h : Es w A k e) {id : Int} (hf : fnd e.L id = none) (n0 : -9223372036854775808 ≤ id) (n1 : id ≤ 9223372036854775807) : (Instr.lookup MT (.map (some A.mb)) (.int .i64 id) true).run Try.prog w = .ok (.tuple #[.pointer none, .bool false]) w := by
  obtain ⟨c, D, _, hm, hr⟩ := h.map
  exact look_ok_none hm n0 n1 (by rw [hr.has id, hf]; rfl)
theorem broken_some (A : Ad) (k : Nat) (e : Eo) (f : Ef) (w : World) (h : Es w A k e) (hf : f ∈ e.L) : Calls Try.prog 34 #[.pointer (some ⟨A.o, 0, none⟩), .int .i64 f.id] w fun x w' => x = .returned (.bool f.q.broken) ∧ w' = w := by
  have c5 := h.blk.cell 5
  have hr := h.look hf
  have HB := Lib.hid (que.broken f.qb f.pv f.q w (h.qs f hf))
  obtain ⟨⟨f0, f1⟩, _⟩ := drr.two (h.fb f hf)
  clear h
  go_enter Try.func34, Try.ntmps34
  go_wp2_with fail
  refine HB.out.mono ?_
  rintro x w1 ⟨rfl, rfl⟩
  go_wp2
  go_ret
  exact ⟨rfl, rfl⟩
end Go.Proofs.Ytcppibjllaablaa.egr

/-
  egress.Out: Add.
-/
namespace Go.Proofs.Ytcppibjllaablaa.egr
open Go.RowKit mem Go.Maps
set_option linter.unusedVariables false

theorem add_there (A : Ad) (k : Nat) (e : Eo) (f : Ef) (v : Bool) (sh : Int) (w : World) (h : Es w A k e) (hf : f ∈ e.L) :
    Calls Try.prog 33 #[.pointer (some ⟨A.o, 0, none⟩), .int .i64 f.id, .bool v, .int .i64 sh] w fun x w' => x = .returned (.int .i64 10) ∧ w' = w := by
  have c5 := h.blk.cell 5
  have hr := h.look hf
  clear h
  go_enter Try.func33, Try.ntmps33
  go_wp2
  go_ret
  exact ⟨rfl, rfl⟩
/-- one flow more, and what the schedule then is -/
def addE (e : Eo) (f : Ef) (s : drr.Sc) : Eo := ⟨e.frames, e.bytes, e.age, e.most, e.guard, e.credit, e.row, e.L ++ [f], s⟩
theorem fnd_snoc (L : List Ef) (f : Ef) (id : Int) : fnd (L ++ [f]) id = (fnd L id).or (if f.id = id then some f else none) := by
  unfold fnd
  rw [List.find?_append]
  congr 1
  by_cases e : f.id = id
  · simp [e]
  · have : (f.id == id) = false := by simpa using e
    simp [this, e]
/-- the memory behind Add -/
theorem Es.add {w w2 w3 w4 : World} {A : Ad} {k : Nat} {e : Eo} (h : Es w A k e) {id : Int} (n0 : -9223372036854775808 ≤ id) (n1 : id ≤ 9223372036854775807) (hf : fnd e.L id = none) {v : Bool} {qb : Nat} {s' : drr.Sc}
    (hq : que.Qs w2 qb (.slice none 0 0) (que.fresh e.frames e.bytes)) (hqb : w.heap.size ≤ qb) (n2 : New w w2)
    (hs : (s' = e.s ∧ v = false ∧ w3 = w2) ∨ (v = true ∧ s'.most = e.s.most ∧ (∀ x, (∃ f ∈ s'.L, f.id = x) ↔ (∃ f ∈ e.s.L, f.id = x) ∨ x = id) ∧ (∃ c D, c ≤ k + 1 ∧ drr.Ss w3 A.sp A.smb c D s') ∧ Turns (· = A.smb) w2 w3))
    {c : Nat} {D : DataW Unit} (hc : c ≤ k) (hmp : w2.ownsMap Try.prog 3 drr.ptrE A.mb c D) (hr : Rd D e.L)
    (hg : (w3.alloc (.cells #[.pointer (some ⟨qb, 0, none⟩), .bool v] GB)).grownBy w4 (some A.mb)) (hm4 : w4.ownsMap Try.prog 3 drr.ptrE A.mb (c + 1) (D.put (.int .i64 id) (.lit (.int .i64 (w3.heap.size : Int))))) :
    Es w4 A (k + 1) (addE e ⟨id, w3.heap.size, v, qb, .slice none 0 0, que.fresh e.frames e.bytes⟩ s') ∧ Turns (fun i => i = A.mb ∨ i = A.smb) w w4 := by
  have h2 := h.later n2
  obtain ⟨c2, D2, hc2, hss⟩ := h2.sch
  have t3 : Turns (· = A.smb) w2 w3 := by
    rcases hs with ⟨_, _, e3⟩ | ⟨_, _, _, _, t⟩
    · rw [e3]; exact Turns.refl _ _
    · exact t
  have hmp3 := ownsMap_turns hmp t3 h.mm
  have t4 : Turns (· = A.mb) w3 w4 := ((Turns.refl _ w3).alloc (.cells #[.pointer (some ⟨qb, 0, none⟩), .bool v] GB)).trans ((Turns.of_grown hg).mono (fun i _ hi => .inl (by injection hi)))
  have t24 : Turns (fun i => i = A.mb ∨ i = A.smb) w2 w4 := (t3.mono (fun i _ hi => .inr hi)).trans (t4.mono (fun i _ hi => .inl (.inl hi)))
  have hb4 : Blk w4 w3.heap.size #[.pointer (some ⟨qb, 0, none⟩), .bool v] GB := ((Turns.of_grown hg).mono (fun i _ hi => by injection hi) : Turns (· = A.mb) (w3.alloc (.cells #[.pointer (some ⟨qb, 0, none⟩), .bool v] GB)) w4).blk (Blk.new _ _ _) (fun e3 => by have := hmp3.lt; omega)
  have hz2 := n2.size
  have hz3 := t3.size
  have ql := hq.lt
  have off : ∀ {r : Nat} {cs : Array Value} {T : TypeId}, Blk w2 r cs T → ¬ (r = A.mb ∨ r = A.smb) := fun hb hk => by
    rcases hk with e3 | e3
    · exact ownsMap_ne hmp hb e3.symm
    · exact ownsMap_ne hss.map hb e3.symm
  have offr : ∀ {α : Type} {E : Enc α} {v : Value} {l : List α} {T : TypeId}, Owns E T w2 v l → ∀ x, v.ownBlock = some x → ¬ (x = A.mb ∨ x = A.smb) := fun hb x hx hk => by
    rcases hk with e3 | e3
    · exact ownsMap_ne_row hmp hb x hx e3.symm
    · exact ownsMap_ne_row hss.map hb x hx e3.symm
  have hD := hmp.isMap
  have hsch : ∃ c D, c ≤ k + 1 ∧ drr.Ss w4 A.sp A.smb c D s' := by
    have tr : ∀ c D, drr.Ss w3 A.sp A.smb c D s' → drr.Ss w4 A.sp A.smb c D s' := fun c D hx => hx.turns t4 (fun e3 => ownsMap_ne hmp3 hx.blk e3.symm) (fun e3 => h.mm e3.symm) (fun f hf e3 => ownsMap_ne hmp3 (hx.fb f hf) e3.symm)
    rcases hs with ⟨e3, _, e4⟩ | ⟨_, _, _, ⟨c3, D3, hc3, hx⟩, _⟩
    · subst e3 e4
      exact ⟨c2, D2, by omega, tr c2 D2 hss⟩
    · exact ⟨c3, D3, hc3, tr c3 D3 hx⟩
  refine ⟨⟨t24.blk h2.blk (off h2.blk), ⟨c + 1, _, by omega, hm4, ⟨fun x => ?_, fun f hfm z => ?_⟩⟩, fun f hfm => ?_, fun f hfm => ?_, hsch, ?_, h.mm, fun f hfm => ?_, ⟨h.cf.f0, h.cf.f1, h.cf.b0, h.cf.b1, h.cf.a0, h.cf.a1, h.cf.m0, h.cf.m1, h.cf.g0, h.cf.g1, h.cf.c0, h.cf.c1⟩, fun f hfm => ?_, ?_, fun x => ?_⟩, (n2.mono (fun _ _ h => h.elim)).trans (t24.mono (fun i _ hi => .inl hi))⟩
  · show _ = (fnd (e.L ++ [_]) x).isSome
    rw [fnd_snoc]
    by_cases e3 : x = id
    · subst e3
      rw [has_put_same hD (show WideAt.IsKeyLit (.int .i64 x) from trivial), hf]
      simp
    · rw [has_put_other (fun e4 => e3 (by injection e4)), hr.has x]
      have e5 : ¬ id = x := fun e4 => e3 e4.symm
      simp [e5]
  · rcases List.mem_append.1 hfm with hfm | hfm
    · have := fnd_none hf f hfm
      rw [atKey_put_other (fun e3 => this (by injection e3))]
      exact hr.at_ f hfm z
    · simp at hfm; subst hfm
      exact atKey_put_same hD (show WideAt.IsKeyLit (.int .i64 id) from trivial) _ _
  · rcases List.mem_append.1 hfm with hfm | hfm
    · exact t24.blk (h2.fb f hfm) (off (h2.fb f hfm))
    · simp at hfm; subst hfm
      exact hb4
  · rcases List.mem_append.1 hfm with hfm | hfm
    · exact (h2.qs f hfm).turns t24 (off (h2.qs f hfm).blk) (offr (h2.qs f hfm).own)
    · simp at hfm; subst hfm
      exact hq.turns t24 (off hq.blk) (offr hq.own)
  · show (e.L ++ [_]).Pairwise Apart
    rw [List.pairwise_append]
    refine ⟨h.ap, List.pairwise_singleton _ _, fun f hfm g hg => ?_⟩
    simp at hg; subst hg
    have l1 := (h2.fb f hfm).lt
    have l2 := (h.qs f hfm).lt
    exact ⟨fnd_none hf f hfm, (by show f.fb ≠ w3.heap.size; omega), (by show f.qb ≠ qb; omega), (fun x _ e3 => by simp [Value.ownBlock] at e3)⟩
  · rcases List.mem_append.1 hfm with hfm | hfm
    · exact h.rg f hfm
    · simp at hfm; subst hfm
      exact ⟨n0, n1⟩
  · rcases List.mem_append.1 hfm with hfm | hfm
    · have := h.fq f hfm
      exact ⟨this.fr, this.mo, this.sz⟩
    · simp at hfm; subst hfm
      exact ⟨rfl, rfl, (fun x hx => by cases hx)⟩
  · rcases hs with ⟨e3, _, _⟩ | ⟨_, e3, _⟩
    · rw [e3]; exact h.sm
    · exact e3.trans h.sm
  · show (∃ f ∈ s'.L, f.id = x) ↔ ∃ f ∈ e.L ++ [_], f.id = x ∧ f.video = true
    have hv := h.vs x
    rcases hs with ⟨e3, e4, _⟩ | ⟨e4, _, e5, _⟩
    · rw [e3, hv]
      constructor
      · rintro ⟨f, hfm, hx⟩
        exact ⟨f, List.mem_append_left _ hfm, hx⟩
      · rintro ⟨f, hfm, hx, hy⟩
        rcases List.mem_append.1 hfm with hfm | hfm
        · exact ⟨f, hfm, hx, hy⟩
        · simp at hfm; subst hfm
          rw [e4] at hy; cases hy
    · rw [e5 x, hv]
      constructor
      · rintro (⟨f, hfm, hx⟩ | hx)
        · exact ⟨f, List.mem_append_left _ hfm, hx⟩
        · exact ⟨_, List.mem_append_right _ List.mem_cons_self, hx.symm, e4⟩
      · rintro ⟨f, hfm, hx, hy⟩
        rcases List.mem_append.1 hfm with hfm | hfm
        · exact .inl ⟨f, hfm, hx, hy⟩
        · simp at hfm; subst hfm
          exact .inr hx.symm

set_option maxRecDepth 100000 in
set_option maxHeartbeats 2000000 in
theorem add_sound (A : Ad) (k : Nat) (e : Eo) (id sh : Int) (w : World) (h : Es w A k e) (n0 : -9223372036854775808 ≤ id) (n1 : id ≤ 9223372036854775807) (hf : fnd e.L id = none) (hk : k ≤ 1048576) :
    Calls Try.prog 33 #[.pointer (some ⟨A.o, 0, none⟩), .int .i64 id, .bool false, .int .i64 sh] w fun x w' => x = .returned (.int .i64 0) ∧ ∃ fb qb, w.heap.size ≤ fb ∧ w.heap.size ≤ qb ∧ Es w' A (k + 1) (addE e ⟨id, fb, false, qb, .slice none 0 0, que.fresh e.frames e.bytes⟩ e.s) ∧ Turns (fun i => i = A.mb ∨ i = A.smb) w w' := by
  have hr := h.look_none hf n0 n1
  obtain ⟨⟨c0, c1, c2, c3, c4, c5, c6, c7, c8⟩, _⟩ := nine h.blk
  have HQ := Lib.hid (fun W => que.new e.frames e.bytes W h.cf.f0 h.cf.f1 h.cf.b0 h.cf.b1)
  have HH := Lib.hid h
  have HF := Lib.hid hf
  clear h hf
  go_enter Try.func33, Try.ntmps33
  go_upto_region 4 with fail
  clear hr
  go_region_with (go_at_call 37; (with_reducible refine Calls.mono (HQ.out _) ?_); rintro x w2 ⟨rfl, hq, n2⟩; have HQS := Lib.hid hq; have HN2 : Hid (New w w2) := Lib.hid (Turns.of_drew n2); clear hq n2)
  all_goals
    have HE2 := Lib.hid (HH.out.later HN2.out)
    clear c0 c1 c2 c3 c4 c5 c6 c7 c8
    obtain ⟨⟨c0, c1, c2, c3, c4, c5, c6, c7, c8⟩, _⟩ := nine HE2.out.blk
    obtain ⟨c, D, hc, hmp, hrd⟩ := HE2.out.map
    have HMP := Lib.hid hmp
    have HRD := Lib.hid hrd
    have hval : drr.ptrE (.pointer (some ⟨w2.heap.size, 0, none⟩)) = some (.lit (.int .i64 (w2.heap.size : Int)), []) := rfl
    have hkey := drr.keyI n0 n1
    have hmx : c < maxLen := by unfold maxLen; omega
    clear hmp hrd
    go_wp2_with (at_mapUpdate; refine wpList_mapUpdate_own _ rfl _ _ _ 138 rfl 3 136 drr.lawI Try.underlying138 drr.ptrE A.mb c D rfl (HMP.out.alloc (.cells #[.pointer (some ⟨w.heap.size, 0, none⟩), .bool false] GB)) hmx _ _ _ rfl rfl hkey _ [] hval ?_; intro wm hownm hgrowm; have HM := Lib.hid hownm; have HG := Lib.hid hgrowm; clear hownm hgrowm)
    go_ret
    have HA := HH.out.add n0 n1 HF.out (v := false) (s' := e.s) HQS.out (Nat.le_refl _) HN2.out (.inl ⟨rfl, rfl, rfl⟩) hc HMP.out HRD.out HG.out HM.out
    exact ⟨rfl, _, _, HN2.out.size, Nat.le_refl _, HA.1, HA.2⟩

theorem Es.no_pic {w : World} {A : Ad} {k : Nat} {e : Eo} (h : Es w A k e) {id : Int} (hf : fnd e.L id = none) : drr.fnd e.s.L id = none := by
  cases hx : drr.fnd e.s.L id with
  | none => rfl
  | some f =>
    obtain ⟨h1, h2⟩ := drr.fnd_some hx
    obtain ⟨g, hg, hid, _⟩ := (h.vs id).1 ⟨f, h1, h2⟩
    exact absurd hid (fnd_none hf g hg)
theorem adds_iff (s : drr.Sc) (id : Int) (b : Nat) (sh x : Int) : (∃ f ∈ (drr.addS s id b sh).L, f.id = x) ↔ (∃ f ∈ s.L, f.id = x) ∨ x = id := by
  constructor
  · rintro ⟨f, hf, hx⟩
    rcases List.mem_append.1 hf with hf | hf
    · exact .inl ⟨f, hf, hx⟩
    · simp at hf; subst hf
      exact .inr hx.symm
  · rintro (⟨f, hf, hx⟩ | hx)
    · exact ⟨f, List.mem_append_left _ hf, hx⟩
    · exact ⟨_, List.mem_append_right _ List.mem_cons_self, hx.symm⟩
set_option maxRecDepth 100000 in
set_option maxHeartbeats 2000000 in
theorem add_video (A : Ad) (k : Nat) (e : Eo) (id sh : Int) (w : World) (h : Es w A k e) (n0 : -9223372036854775808 ≤ id) (n1 : id ≤ 9223372036854775807) (hf : fnd e.L id = none) (hk : k ≤ 1048576) (hs0 : e.most ≤ sh) (hs1 : sh ≤ 16777216) :
    Calls Try.prog 33 #[.pointer (some ⟨A.o, 0, none⟩), .int .i64 id, .bool true, .int .i64 sh] w fun x w' => x = .returned (.int .i64 0) ∧ ∃ fb qb sb, w.heap.size ≤ fb ∧ w.heap.size ≤ qb ∧ w.heap.size ≤ sb ∧ Es w' A (k + 1) (addE e ⟨id, fb, true, qb, .slice none 0 0, que.fresh e.frames e.bytes⟩ (drr.addS e.s id sb sh)) ∧ Turns (fun i => i = A.mb ∨ i = A.smb) w w' := by
  have hr := h.look_none hf n0 n1
  obtain ⟨⟨c0, c1, c2, c3, c4, c5, c6, c7, c8⟩, _⟩ := nine h.blk
  have HQ := Lib.hid (fun W => que.new e.frames e.bytes W h.cf.f0 h.cf.f1 h.cf.b0 h.cf.b1)
  have HH := Lib.hid h
  have HF := Lib.hid hf
  have HNP := Lib.hid (h.no_pic hf)
  have hsm := h.sm
  have HSH : Hid (e.s.most ≤ sh ∧ sh ≤ 16777216) := Lib.hid ⟨by rw [hsm]; exact hs0, hs1⟩
  clear h hf hsm hs0 hs1
  go_enter Try.func33, Try.ntmps33
  go_upto_region 4 with fail
  clear hr
  go_region_with (go_at_call 37; (with_reducible refine Calls.mono (HQ.out _) ?_); rintro x w2 ⟨rfl, hq, n2⟩; have HQS := Lib.hid hq; have HN2 : Hid (New w w2) := Lib.hid (Turns.of_drew n2); clear hq n2)
  all_goals
    have HE2 := Lib.hid (HH.out.later HN2.out)
    clear c0 c1 c2 c3 c4 c5 c6 c7 c8
    obtain ⟨⟨c0, c1, c2, c3, c4, c5, c6, c7, c8⟩, _⟩ := nine HE2.out.blk
    obtain ⟨c, D, hc, hmp, hrd⟩ := HE2.out.map
    obtain ⟨d, DS, hd, hss⟩ := HE2.out.sch
    have HMP := Lib.hid hmp
    have HRD := Lib.hid hrd
    have HAD := Lib.hid (drr.add_ok A.sp A.smb d DS e.s id sh w2 hss HSH.out.1 HSH.out.2 n0 n1 HNP.out (by omega))
    clear hmp hrd hss
    go_wp2_with fail
    refine HAD.out.mono ?_
    rintro x w3 ⟨rfl, hs3, ht3⟩
    have HS3 := Lib.hid hs3
    have HT3 := Lib.hid ht3
    have hcell := fun i => ht3.cell (a := ⟨A.o, i, none⟩) HE2.out.lt (fun e2 => by obtain ⟨_, _, _, hx⟩ := HE2.out.sch; exact ownsMap_ne hx.map HE2.out.blk e2.symm)
    have b5 := (hcell 5).trans c5
    have HM3 := Lib.hid (ownsMap_turns HMP.out ht3 HE2.out.mm)
    have hval : drr.ptrE (.pointer (some ⟨w3.heap.size, 0, none⟩)) = some (.lit (.int .i64 (w3.heap.size : Int)), []) := rfl
    have hkey := drr.keyI n0 n1
    have hmx : c < maxLen := by unfold maxLen; omega
    clear hs3 ht3 hcell HAD c0 c1 c2 c3 c4 c5 c6 c7 c8
    go_wp2_with (at_mapUpdate; refine wpList_mapUpdate_own _ rfl _ _ _ 138 rfl 3 136 drr.lawI Try.underlying138 drr.ptrE A.mb c D rfl (HM3.out.alloc (.cells #[.pointer (some ⟨w.heap.size, 0, none⟩), .bool true] GB)) hmx _ _ _ rfl rfl hkey _ [] hval ?_; intro wm hownm hgrowm; have HM := Lib.hid hownm; have HG := Lib.hid hgrowm; clear hownm hgrowm)
    go_ret
    have HA := HH.out.add n0 n1 HF.out (v := true) (s' := drr.addS e.s id w2.heap.size sh) HQS.out (Nat.le_refl _) HN2.out (.inr ⟨rfl, rfl, fun x => adds_iff _ _ _ _ _, ⟨_, _, by omega, HS3.out⟩, HT3.out⟩) hc HMP.out HRD.out HG.out HM.out
    exact ⟨rfl, _, _, _, Nat.le_trans HN2.out.size HT3.out.size, Nat.le_refl _, HN2.out.size, HA.1, HA.2⟩
set_option maxRecDepth 100000 in
set_option maxHeartbeats 2000000 in
theorem add_bad (A : Ad) (k : Nat) (e : Eo) (id sh : Int) (w : World) (h : Es w A k e) (n0 : -9223372036854775808 ≤ id) (n1 : id ≤ 9223372036854775807) (hf : fnd e.L id = none) (hs : sh < e.most ∨ 16777216 < sh) :
    Calls Try.prog 33 #[.pointer (some ⟨A.o, 0, none⟩), .int .i64 id, .bool true, .int .i64 sh] w fun x w' => x = .returned (.int .i64 5) ∧ New w w' := by
  have hr := h.look_none hf n0 n1
  obtain ⟨⟨c0, c1, c2, c3, c4, c5, c6, c7, c8⟩, _⟩ := nine h.blk
  have HQ := Lib.hid (fun W => que.new e.frames e.bytes W h.cf.f0 h.cf.f1 h.cf.b0 h.cf.b1)
  have HH := Lib.hid h
  have hsm := h.sm
  have HSH : Hid (sh < e.s.most ∨ 16777216 < sh) := Lib.hid (by rw [hsm]; exact hs)
  clear h hf hsm hs
  go_enter Try.func33, Try.ntmps33
  go_upto_region 4 with fail
  clear hr
  go_region_with (go_at_call 37; (with_reducible refine Calls.mono (HQ.out _) ?_); rintro x w2 ⟨rfl, hq, n2⟩; have HN2 : Hid (New w w2) := Lib.hid (Turns.of_drew n2); clear hq n2)
  all_goals
    have HE2 := Lib.hid (HH.out.later HN2.out)
    clear c0 c1 c2 c3 c4 c5 c6 c7 c8
    obtain ⟨⟨c0, c1, c2, c3, c4, c5, c6, c7, c8⟩, _⟩ := nine HE2.out.blk
    obtain ⟨d, DS, hd, hss⟩ := HE2.out.sch
    have HAD := Lib.hid (drr.add_bad A.sp A.smb d DS e.s id sh w2 hss HSH.out)
    clear hss
    go_wp2_with fail
    refine HAD.out.mono ?_
    rintro x w3 ⟨rfl, rfl⟩
    go_wp2
    go_ret
    exact ⟨rfl, HN2.out⟩
end Go.Proofs.Ytcppibjllaablaa.egr

/-
  egress.named: items of a flow. Grant, Spend.
-/
namespace Go.Proofs.Ytcppibjllaablaa.egr
open Go.RowKit mem Go.Maps
set_option linter.unusedVariables false

/-- an item that goes out -/
structure Snt where
  id : Int
  x : que.It
def Snt.cs (s : Snt) : List Value := [.int .i64 s.id, .int .i64 s.x.n, .int .i64 s.x.size, .int .i64 s.x.tick, .bool s.x.key]
def SE : Enc Snt := ⟨5, Snt.cs, fun _ => rfl, fun x u hu => by
  simp [Snt.cs] at hu
  rcases hu with rfl | rfl | rfl | rfl | rfl <;> rfl⟩
abbrev SeT : TypeId := 128
abbrev SlT : TypeId := 87
theorem infoSe : (Try.prog.info? SeT).map (fun i => (i.zero, i.size, i.bytes)) = some (some (.agg #[.int .i64 0, .int .i64 0, .int .i64 0, .int .i64 0, .bool false]), 5, 40) := by kernel_rfl
def nam (id : Int) (l : List que.It) : List Snt := l.map (fun x => ⟨id, x⟩)

set_option maxRecDepth 100000 in
set_option maxHeartbeats 2000000 in
theorem named (id : Int) (v : Value) (l : List que.It) (w : World) (h : Owns que.IE que.PT w v l) (hl : l.length ≤ 1048576) :
    Calls Try.prog 60 #[.int .i64 id, v] w fun e w' => ∃ u, e = .returned u ∧ Gr SE SeT w w' u (nam id l) := by
  obtain ⟨ao, c, rfl, hlc, hrd, _⟩ := h.form
  have HR := Lib.hid hrd
  have hlm : l.length ≤ maxLen := by unfold maxLen; omega
  clear h hrd
  go_enter Try.func60, Try.ntmps60
  go_wp2_with fail
  go_loopw [5, 10] (fun v i wr => ∃ k : Nat, k ≤ l.length ∧ i = .int .i64 k ∧ Gr SE SeT w wr v (nam id (l.take k))) (fun _ i _ => l.length - (intOf i).toNat)
  case atStart => exact ⟨0, Nat.zero_le _, rfl, Gr.nil _ _ _ _ (Turns.refl _ _)⟩
  case round =>
    obtain ⟨k, hk, rfl, hgr⟩ := hrel
    have HG := Lib.hid hgr
    clear hgr
    by_cases hlt : k < l.length
    · obtain ⟨x, hx⟩ : ∃ x, l[k]? = some x := ⟨_, List.getElem?_eq_getElem hlt⟩
      obtain ⟨g, rfl, hb, hc⟩ := HR.out.resolve_left (fun e => by rw [e] at hlt; exact absurd hlt (Nat.not_lt_zero _))
      have hcc : ∀ (j : Nat) (y : Value), x.cs[j]? = some y → wr.cell? ⟨g, k * 4 + j, none⟩ = some y := fun j y hy => (HG.out.n.cell (a := ⟨g, k * 4 + j, none⟩) hb (fun h => h)).trans (hc k x hx j y hy)
      have d0 : wr.cell? ⟨g, k * 4, none⟩ = _ := hcc 0 _ rfl
      have d1 := hcc 1 _ rfl
      have d2 := hcc 2 _ rfl
      have d3 := hcc 3 _ rfl
      have HTK : Hid (nam id (l.take (k + 1)) = nam id (l.take k) ++ [⟨id, x⟩]) := Lib.hid (by rw [List.take_add_one, hx]; simp [nam])
      have hlen : (nam id (l.take k)).length ≤ 1048575 := by unfold nam; rw [List.length_map, List.length_take]; omega
      clear hc hx hb hcc
      generalize nam id (l.take k) = S at *
      obtain ⟨xn, xs, xt, xk⟩ := x
      dsimp only at *
      have BP : Hid (Blk (wr.alloc (.cells #[.int .i64 xn, .int .i64 xs, .int .i64 xt, .bool xk] que.PT)) wr.heap.size #[.int .i64 xn, .int .i64 xs, .int .i64 xt, .bool xk] que.PT) := Lib.hid (Blk.new _ _ _)
      have HG2 : Hid (Gr SE SeT w (wr.alloc (.cells #[.int .i64 xn, .int .i64 xs, .int .i64 xt, .bool xk] que.PT)) u5 S) := Lib.hid (HG.out.later ((Turns.refl _ _).alloc _))
      clear HG
      go_upto_region 5 with fail
      refine (show Code.wp _ _ _ _ (wr.alloc (.cells #[.int .i64 xn, .int .i64 xs, .int .i64 xt, .bool xk] que.PT)) from ?_)
      generalize wr.alloc (.cells #[.int .i64 xn, .int .i64 xs, .int .i64 xt, .bool xk] que.PT) = w2 at *
      generalize wr.heap.size = pp at *
      clear d0 d1 d2 d3
      obtain ⟨⟨x0, x1, x2, x3⟩, _⟩ := que.four BP.out
      go_wp2_with (at_builtin; refine wpList_append_one (E := SE) Try.underlying87 infoSe rfl (by decide) (by decide) rfl _ _ rfl _ S ⟨id, ⟨xn, xs, xt, xk⟩⟩ rfl (HG2.out.own.turns (S := fun _ => False) ((Turns.refl _ _).alloc _) (fun _ _ h => h)) w2.heap.size rfl (heap_alloc_new w2 _) (by omega) ?_; intro v4 w4 hown4 hgrow4 hat4)
      have HG4 := Lib.hid (HG2.out.push hown4 hgrow4 hat4)
      clear hown4 hgrow4 hat4 HG2 BP x0 x1 x2 x3
      go_roundw
      case rel => exact ⟨k + 1, by omega, by go_num, by rw [HTK.out]; exact HG4.out⟩
      case measure => simp [intOf]; omega
    · obtain rfl : k = l.length := by omega
      rw [List.take_length] at HG
      go_wp2
      go_ret
      exact ⟨u5, rfl, HG.out⟩

set_option maxRecDepth 100000 in
set_option maxHeartbeats 2000000 in
theorem spend (A : Ad) (k : Nat) (e : Eo) (n : Int) (w : World) (h : Es w A k e) (h0 : 0 ≤ n) (h1 : n ≤ e.credit) :
    Calls Try.prog 36 #[.pointer (some ⟨A.o, 0, none⟩), .int .i64 n] w fun x w' => x = .returned (.bool true) ∧ Es w' A k ⟨e.frames, e.bytes, e.age, e.most, e.guard, e.credit - n, e.row, e.L, e.s⟩ ∧ Turns (· = A.o) w w' := by
  obtain ⟨⟨c0, c1, c2, c3, c4, c5, c6, c7, c8⟩, f7, f8⟩ := nine h.blk
  have d1 : decide (n < 0) = false := decide_eq_false (by omega)
  have d2 : decide (e.credit < n) = false := decide_eq_false (by omega)
  have k0 := h.cf.c0
  have k1 := h.cf.c1
  have HH := Lib.hid h
  have hb : Blk (w.setCell ⟨A.o, 7, none⟩ (.int .i64 (e.credit - n))) A.o (cells ⟨e.frames, e.bytes, e.age, e.most, e.guard, e.credit - n, e.row, e.L, e.s⟩ A) OB := h.blk.set 7 _
  have HB := Lib.hid hb
  clear h hb
  go_enter Try.func36, Try.ntmps36
  go_wp2
  go_ret
  have t : Turns (· = A.o) w (w.setCell ⟨A.o, 7, none⟩ (.int .i64 (e.credit - n))) := Turns.setCell (S := (· = A.o)) (Turns.refl _ w) (p := ⟨A.o, 7, none⟩) (.inl rfl) _
  have hc := HH.out.cf
  refine ⟨rfl, HH.out.self t HB.out rfl rfl rfl rfl rfl ⟨hc.f0, hc.f1, hc.b0, hc.b1, hc.a0, hc.a1, hc.m0, hc.m1, hc.g0, hc.g1, ?_, ?_⟩, t⟩
  · show 0 ≤ e.credit - n; omega
  · show e.credit - n ≤ _; omega
theorem spend_no (A : Ad) (k : Nat) (e : Eo) (n : Int) (w : World) (h : Es w A k e) (h0 : n < 0 ∨ e.credit < n) :
    Calls Try.prog 36 #[.pointer (some ⟨A.o, 0, none⟩), .int .i64 n] w fun x w' => x = .returned (.bool false) ∧ w' = w := by
  obtain ⟨⟨c0, c1, c2, c3, c4, c5, c6, c7, c8⟩, f7, f8⟩ := nine h.blk
  clear h
  by_cases hn : n < 0
  · have d1 : decide (n < 0) = true := decide_eq_true hn
    clear h0 hn
    go_enter Try.func36, Try.ntmps36
    go_wp2
    go_ret
    exact ⟨rfl, rfl⟩
  · have d1 : decide (n < 0) = false := decide_eq_false hn
    have d2 : decide (e.credit < n) = true := decide_eq_true (h0.resolve_left hn)
    clear h0 hn
    go_enter Try.func36, Try.ntmps36
    go_wp2
    go_ret
    exact ⟨rfl, rfl⟩
/-- the credit behind Grant -/
def grantI (c n : Int) : Int := c + min (max n 0) (1099511627776 - c)
set_option maxRecDepth 100000 in
set_option maxHeartbeats 2000000 in
theorem grant (A : Ad) (k : Nat) (e : Eo) (n : Int) (w : World) (h : Es w A k e) (n0 : -9223372036854775808 ≤ n) (n1 : n ≤ 9223372036854775807) :
    Calls Try.prog 52 #[.pointer (some ⟨A.o, 0, none⟩), .int .i64 n] w fun x w' => x = .returned (.tuple #[]) ∧ Es w' A k ⟨e.frames, e.bytes, e.age, e.most, e.guard, grantI e.credit n, e.row, e.L, e.s⟩ ∧ Turns (· = A.o) w w' := by
  obtain ⟨⟨c0, c1, c2, c3, c4, c5, c6, c7, c8⟩, f7, f8⟩ := nine h.blk
  have k0 := h.cf.c0
  have k1 := h.cf.c1
  have HH := Lib.hid h
  have s1 : IntKind.i64.wrap (1099511627776 - e.credit) = 1099511627776 - e.credit := IntWalk.i64_in _ (by omega)
  have s2 : IntKind.i64.wrap (e.credit + min (max n 0) (1099511627776 - e.credit)) = grantI e.credit n := IntWalk.i64_in _ (by omega)
  clear h
  go_enter Try.func52, Try.ntmps52
  go_region
  go_end0
  have hb : Blk ((w.setCell ⟨A.o, 7, none⟩ (.int .i64 (grantI e.credit n))).drew) A.o (cells ⟨e.frames, e.bytes, e.age, e.most, e.guard, grantI e.credit n, e.row, e.L, e.s⟩ A) OB := HH.out.blk.set 7 _
  have t : Turns (· = A.o) w ((w.setCell ⟨A.o, 7, none⟩ (.int .i64 (grantI e.credit n))).drew) := (Turns.setCell (S := (· = A.o)) (Turns.refl _ w) (p := ⟨A.o, 7, none⟩) (.inl rfl) _).drew
  have hc := HH.out.cf
  refine ⟨rfl, HH.out.self t hb rfl rfl rfl rfl rfl ⟨hc.f0, hc.f1, hc.b0, hc.b1, hc.a0, hc.a1, hc.m0, hc.m1, hc.g0, hc.g1, ?_, ?_⟩, t⟩
  · show 0 ≤ grantI e.credit n; unfold grantI; omega
  · show grantI e.credit n ≤ _; unfold grantI; omega
end Go.Proofs.Ytcppibjllaablaa.egr

/-
  egress.Out: Put.
-/
namespace Go.Proofs.Ytcppibjllaablaa.egr
open Go.RowKit mem Go.Maps
set_option linter.unusedVariables false

abbrev ics (x : que.It) : Array Value := #[.int .i64 x.n, .int .i64 x.size, .int .i64 x.tick, .bool x.key]
/-- the item as a flow takes it -/
def keyed (f : Ef) (x : que.It) : que.It := ⟨x.n, x.size, x.tick, x.key || !f.video⟩
set_option maxRecDepth 100000 in
set_option maxHeartbeats 2000000 in
theorem put_none (A : Ad) (k : Nat) (e : Eo) (id : Int) (x : que.It) (w : World) (h : Es w A k e) (hf : fnd e.L id = none) (n0 : -9223372036854775808 ≤ id) (n1 : id ≤ 9223372036854775807) :
    Calls Try.prog 51 #[.pointer (some ⟨A.o, 0, none⟩), .int .i64 id, x.v] w fun e w' => e = .returned (.tuple #[.slice none 0 0, .bool false]) ∧ New w w' := by
  obtain ⟨xn, xs, xt, xk⟩ := x
  dsimp only [que.It.v]
  have HN : Hid (New w (w.alloc (.cells #[.int .i64 xn, .int .i64 xs, .int .i64 xt, .bool xk] que.PT))) := Lib.hid ((Turns.refl _ _).alloc _)
  have h1 := h.later HN.out
  have c5 := h1.blk.cell 5
  have hr := h1.look_none hf n0 n1
  clear h h1 hf
  go_enter Try.func51, Try.ntmps51
  go_upto_region 2 with fail
  go_quiet (fail)
  go_wp2
  go_ret2
  exact ⟨rfl, HN.out.drewN _⟩
set_option maxRecDepth 100000 in
set_option maxHeartbeats 2000000 in
theorem put_great (A : Ad) (k : Nat) (e : Eo) (f : Ef) (x : que.It) (w : World) (h : Es w A k e) (hf : f ∈ e.L) (hx : e.most < x.size) :
    Calls Try.prog 51 #[.pointer (some ⟨A.o, 0, none⟩), .int .i64 f.id, x.v] w fun e w' => e = .returned (.tuple #[.slice none 0 0, .bool false]) ∧ New w w' := by
  obtain ⟨xn, xs, xt, xk⟩ := x
  dsimp only [que.It.v]
  have HN : Hid (New w (w.alloc (.cells #[.int .i64 xn, .int .i64 xs, .int .i64 xt, .bool xk] que.PT))) := Lib.hid ((Turns.refl _ _).alloc _)
  have HB : Hid (Blk (w.alloc (.cells #[.int .i64 xn, .int .i64 xs, .int .i64 xt, .bool xk] que.PT)) w.heap.size #[.int .i64 xn, .int .i64 xs, .int .i64 xt, .bool xk] que.PT) := Lib.hid (Blk.new _ _ _)
  have h1 := h.later HN.out
  have c5 := h1.blk.cell 5
  have c3 := h1.blk.cell 3
  have x1 := HB.out.cell 1
  have hr := h1.look hf
  have d1 : decide (e.most < xs) = true := decide_eq_true hx
  clear h h1 hf hx
  go_enter Try.func51, Try.ntmps51
  go_upto_region 2 with fail
  go_quiet (fail)
  go_wp2
  go_ret2
  exact ⟨rfl, HN.out.drewN _⟩
theorem putQ_frames (q : que.Q) (x : que.It) : (que.putQ q x).frames = q.frames ∧ (que.putQ q x).most = q.most := by
  unfold que.putQ
  constructor <;> (repeat' split) <;> rfl
theorem putD_len (q : que.Q) (x : que.It) (h : q.L.length ≤ 1024) : (que.putD q x).length ≤ 1048576 := by
  unfold que.putD
  split
  · exact Nat.zero_le _
  · rw [List.length_take]; omega
theorem putQ_mem {q : que.Q} {x z : que.It} (h : z ∈ (que.putQ q x).L) : z ∈ q.L ∨ z = x := by
  unfold que.putQ at h
  (repeat' split at h) <;> simp at h
  all_goals first | exact .inl h | exact .inl (List.mem_of_mem_drop h) | (rcases h with h | h; exact .inl (List.mem_of_mem_drop h); exact .inr h) | (rcases h with h | h; exact .inl h; exact .inr h)
set_option maxRecDepth 100000 in
set_option maxHeartbeats 2000000 in
theorem put_some (A : Ad) (k : Nat) (e : Eo) (f : Ef) (x : que.It) (w : World) (h : Es w A k e) (hf : f ∈ e.L) (hx : x.size ≤ e.most) (s0 : -9223372036854775808 ≤ x.size) :
    Calls Try.prog 51 #[.pointer (some ⟨A.o, 0, none⟩), .int .i64 f.id, x.v] w fun z w' => ∃ u pv', z = .returned (.tuple #[u, .bool (que.putOk f.q (keyed f x))]) ∧ Es w' A k ⟨e.frames, e.bytes, e.age, e.most, e.guard, e.credit, e.row, setQ e.L f.id pv' (que.putQ f.q (keyed f x)), e.s⟩ ∧ Turns (que.Foot f.qb f.pv) w w' ∧ Owns SE SeT w' u (nam f.id (que.putD f.q (keyed f x))) ∧ (∀ g, u.ownBlock = some g → w.heap.size ≤ g) ∧ (pv'.ownBlock = f.pv.ownBlock ∨ ∃ g, pv'.ownBlock = some g ∧ w.heap.size ≤ g) := by
  have hs1 : x.size ≤ 9223372036854775807 := by have := h.cf.m1; omega
  have HW := Lib.hid h
  have HPD : Hid ((que.putD f.q (keyed f x)).length ≤ 1048576) := Lib.hid (putD_len _ _ (h.qs f hf).small)
  have HPS : Hid (∀ z ∈ (que.putQ f.q (keyed f x)).L, z.size ≤ e.most) := Lib.hid (fun z hz => (putQ_mem hz).elim ((h.fq f hf).sz z) (fun e2 => by rw [e2]; exact hx))
  have HKD : Hid (keyed f x = ⟨x.n, x.size, x.tick, x.key || !f.video⟩ ∧ x.size ≤ e.most) := Lib.hid ⟨rfl, hx⟩
  have HP := Lib.hid (fun W hq => que.put f.qb f.pv f.q (keyed f x) W hq s0 hs1)
  rw [HKD.out.1] at HP
  dsimp only [que.It.v] at HP
  generalize keyed f x = y at *
  obtain ⟨xn, xs, xt, xk⟩ := x
  dsimp only [que.It.v] at *
  have HN : Hid (New w (w.alloc (.cells #[.int .i64 xn, .int .i64 xs, .int .i64 xt, .bool xk] que.PT))) := Lib.hid ((Turns.refl _ _).alloc _)
  have hb : Blk (w.alloc (.cells #[.int .i64 xn, .int .i64 xs, .int .i64 xt, .bool xk] que.PT)) w.heap.size #[.int .i64 xn, .int .i64 xs, .int .i64 xt, .bool xk] que.PT := Blk.new _ _ _
  have HB := Lib.hid hb
  have h1 := h.later HN.out
  have HH := Lib.hid h1
  have HF := Lib.hid hf
  have c5 := h1.blk.cell 5
  have c3 := h1.blk.cell 3
  obtain ⟨⟨x0, x1, x2, x3⟩, g0, g1, g2, g3⟩ := que.four hb
  obtain ⟨⟨f0, f1⟩, _⟩ := drr.two (h1.fb f hf)
  have hr := h1.look hf
  have d1 : decide (e.most < xs) = false := decide_eq_false (by omega)
  clear h h1 hf hx hb hs1 s0
  go_enter Try.func51, Try.ntmps51
  go_upto_region 2 with fail
  go_quiet (fail)
  have HH2 : Hid (Es ((w.alloc (.cells #[.int .i64 xn, .int .i64 xs, .int .i64 xt, .bool xk] que.PT)).drewN nq) A k e) := Lib.hid (HH.out.later ((Turns.refl _ _).drewN _))
  have HB2 : Hid (Blk ((w.alloc (.cells #[.int .i64 xn, .int .i64 xs, .int .i64 xt, .bool xk] que.PT)).drewN nq) w.heap.size #[.int .i64 xn, .int .i64 xs, .int .i64 xt, .bool xk] que.PT) := Lib.hid HB.out
  have HN2 : Hid (New w ((w.alloc (.cells #[.int .i64 xn, .int .i64 xs, .int .i64 xt, .bool xk] que.PT)).drewN nq)) := Lib.hid (HN.out.drewN _)
  have HPB : Hid (∃ pb, pb = w.heap.size) := Lib.hid ⟨_, rfl⟩
  obtain ⟨pb, hpb⟩ := HPB.out
  rw [← hpb] at HB2 ⊢
  have HPL := Lib.hid hpb
  clear HH HN HB c5 c3 x0 x1 x2 x3 g0 g1 g2 g3 f0 f1 hr hpb HPB
  generalize (w.alloc (.cells #[.int .i64 xn, .int .i64 xs, .int .i64 xt, .bool xk] que.PT)).drewN nq = w1 at *
  obtain ⟨⟨x0, x1, x2, x3⟩, g0, g1, g2, g3⟩ := que.four HB2.out
  obtain ⟨⟨f0, f1⟩, _⟩ := drr.two (HH2.out.fb f HF.out)
  generalize f.video = fv at *
  cases xk <;> cases fv
  all_goals
    simp only [Bool.not_false, Bool.not_true, Bool.or_true, Bool.or_false] at HP HKD
  all_goals
    rw [← HKD.out.1] at HP
    go_upto_region 5 with fail
    have HN3 := Lib.hid (HN2.out.setCell (p := ⟨pb, 3, none⟩) (.inr (by rw [HPL.out]; exact Nat.le_refl _)) (.bool (y.key)))
    have HB3 := Lib.hid (HB2.out.set 3 (.bool (y.key)))
    rw [HKD.out.1] at HN3 HB3
    dsimp only at HN3 HB3
    clear HN2 HB2 x0 x1 x2 x3 g0 g1 g2 g3 f0 f1 HH2
    generalize w1.setCell ⟨pb, 3, none⟩ _ = w3 at *
    have HH3 := Lib.hid (HW.out.later HN3.out)
    obtain ⟨⟨x0, x1, x2, x3⟩, _⟩ := que.four HB3.out
    obtain ⟨⟨f0, f1⟩, _⟩ := drr.two (HH3.out.fb f HF.out)
    have HQ3 := Lib.hid (HH3.out.qs f HF.out)
    go_region_with (go_at_call 38; (with_reducible refine Calls.mono (HP.out _ ?_) ?_); (focus (exact HQ3.out.later ((Turns.refl _ _).drew))); rintro z w4 ⟨v, rfl, hpp⟩; have HPP := Lib.hid hpp; clear hpp)
  all_goals
    obtain ⟨ao, c, hv, _, _, _⟩ := HPP.out.fr.own.form
    subst hv
    have HNM := Lib.hid (named f.id _ _ w4 HPP.out.fr.own HPD.out)
    clear x0 x1 x2 x3 f0 f1
    go_wp2_with fail
    refine HNM.out.mono ?_
    rintro z w5 ⟨u, rfl, hg⟩
    have HG := Lib.hid hg
    clear hg HNM
    go_wp2
    go_ret2
    obtain ⟨pv', hloc, hes⟩ := HH3.out.queue HF.out (q' := que.putQ f.q y) ⟨HPP.out.lft.qs, Turns.of_drew HPP.out.lft.turns⟩ (putQ_frames _ _).1 (putQ_frames _ _).2 HPS.out
    have t : Turns (que.Foot f.qb f.pv) w w4 := (HN3.out.mono (fun _ _ h => h.elim)).trans ((Turns.of_drew HPP.out.lft.turns).mono (fun i _ hi => .inl hi))
    exact ⟨u, pv', rfl, hes.later HG.out.n, t.trans (HG.out.n.mono (fun _ _ h => h.elim)), HG.out.own, (fun g hg => Nat.le_trans t.size (HG.out.vb g hg)), hloc.elim .inl (fun ⟨g, h1, h2⟩ => .inr ⟨g, h1, Nat.le_trans HN3.out.size h2⟩)⟩
end Go.Proofs.Ytcppibjllaablaa.egr

/-
  egress.Out: the rising numbers of the flows.
-/
namespace Go.Proofs.Ytcppibjllaablaa.egr
open Go.RowKit mem Go.Maps Go.Sort Go.Shelf
open Go.Proofs.Ytcppibjllaablaa.itr
set_option linter.unusedVariables false

theorem keysF (mb : Option Nat) (W : World) : Calls Try.prog 81 #[.map mb] W fun e w' => e = .returned (.func (.func 94) #[] #[.pointer (some ⟨W.heap.size, 0, none⟩)]) ∧ w' = W.alloc (.cells #[.map mb] MT) :=
  (callsIn_wide (n := 5)).1 (AnyZI.keys_in Try.keysIF Fence.wide 5 trivial rfl mb W)
set_option maxHeartbeats 1000000 in
theorem sortedF (b nn : Nat) (D : DataW Unit) (R : Value → Option (DataW Unit × List MemPlace)) (l : List Int) (w : World) (hown : w.ownsMap Try.prog 3 R b nn D) (hmax : Maps.size D ≤ 1048576)
    (hasc : l.Pairwise (· < ·)) (hl : ∀ x, x ∈ l ↔ Maps.has D (.int .i64 x) = true) :
    Calls Try.prog 47 #[.func (.func 94) #[] #[.pointer (some ⟨w.heap.size, 0, none⟩)]] (w.alloc (.cells #[.map (some b)] MT)) fun e w' => ∃ v : Value, e = .returned v ∧ Owns IntE 3 w' v l ∧ (∀ g, v.ownBlock = some g → w.heap.size ≤ g) ∧ Turns (fun _ => False) w w' := by
  have hbl := hown.lt
  have hseq : SeqGives Fence.wide 2 Try.prog 94 #[.pointer (some ⟨w.heap.size, 0, none⟩)] encZ (fun ss => ss.Perm (intKeys D)) (Maps.size D) (w.alloc (.cells #[.map (some b)] MT)) :=
    AnyZI.keys_gives (ρ := Try.keysIF_ren) { Try.keysIF with } Fence.wide _ trivial rfl (by omega) w.heap.size b nn D _ (by simp) (by simp) (by
      obtain ⟨es, clock, hb, Ft, hs, hD⟩ := hown
      exact ⟨es, clock, (Below.heap_alloc _ _ b hbl).trans hb, Ft, hs, hD⟩)
  have hper : l.Perm (intKeys D) := CollectedI.perm (left := fun _ => false) ⟨asc_nodup hasc, fun x => by rw [hl x]; simp⟩ hown (int_keyed Try.underlying3) Try.underlying3 (fun _ => rfl)
  have cS := AnyZI.sorted_in Try.sortedI Fence.wide 5 trivial trivial trivial trivial rfl (by omega) (sortsI _) (enters_of Try.func66 (by kernel_rfl) rfl) 94 #[.pointer (some ⟨w.heap.size, 0, none⟩)] trivial (enters_of Try.func94 (by kernel_rfl) rfl) _ _ (by unfold maxLen; omega) (by omega) _ hseq
  refine ((callsIn_wide (n := 5)).1 cS).mono ?_
  rintro e w' ⟨v, ss, rfl, hS, hrow, hnil, hb⟩
  have hs := sorted_is (hS.trans hper.symm) hasc
  have hlen : ss.length = l.length := (hS.trans hper.symm).length_eq
  rw [hs, hlen] at hrow
  have e2 : (w.alloc (.cells #[.map (some b)] MT)).heap.size = w.heap.size + 1 := by unfold World.alloc; exact Array.size_push _
  refine ⟨v, rfl, ?_, fun g hg => ?_, ((Turns.refl _ w).alloc _).trans ((Turns.of_below hb).mono (fun i hi h => .inr (by omega)))⟩
  · unfold Owns
    rw [intE_all]
    exact ownsRow_base_a hrow (Nat.zero_le _)
  · have := (World.ownsRow.lt hrow g hg).1
    omega
/-- the numbers, rising -/
def idS (L : List Ef) : List Int := (L.map (·.id)).mergeSort (fun x y => decide (x ≤ y))
theorem idS_perm (L : List Ef) : (idS L).Perm (L.map (·.id)) := List.mergeSort_perm _ _
theorem idS_mem (L : List Ef) (x : Int) : x ∈ idS L ↔ ∃ f ∈ L, f.id = x := by
  rw [(idS_perm L).mem_iff, List.mem_map]
theorem idS_asc {L : List Ef} (h : Ap L) : (idS L).Pairwise (· < ·) := by
  have h1 : (idS L).Pairwise (fun x y => decide (x ≤ y) = true) := List.pairwise_mergeSort (fun a b c h1 h2 => by simp at *; omega) (fun a b => by simp; omega) _
  have h2 : (idS L).Nodup := by
    rw [(idS_perm L).nodup_iff]
    exact List.pairwise_map.2 (h.imp (fun h => h.1))
  have h3 := List.pairwise_and_iff.2 ⟨h1, h2⟩
  exact h3.imp (fun ⟨h4, h5⟩ => by simp at h4; omega)
theorem fnd_isSome (L : List Ef) (x : Int) : (fnd L x).isSome = true ↔ ∃ f ∈ L, f.id = x := by
  constructor
  · intro h
    obtain ⟨f, hf⟩ := Option.isSome_iff_exists.1 h
    obtain ⟨h1, h2⟩ := fnd_some hf
    exact ⟨f, h1, h2⟩
  · rintro ⟨f, hf, rfl⟩
    cases hx : fnd L f.id with
    | none => exact absurd rfl (fnd_none hx f hf)
    | some g => rfl
set_option maxRecDepth 100000 in
theorem ids (A : Ad) (k : Nat) (e : Eo) (w : World) (h : Es w A k e) (hk : k ≤ 1048576) :
    Calls Try.prog 59 #[.pointer (some ⟨A.o, 0, none⟩)] w fun x w' => ∃ v, x = .returned v ∧ Gr IntE 3 w w' v (idS e.L) := by
  obtain ⟨c, D, hc, hmp, hrd⟩ := h.map
  have hsz : Maps.size D ≤ 1048576 := Nat.le_trans hmp.size_le (by omega)
  have c5 := h.blk.cell 5
  have HKY := Lib.hid (keysF (some A.mb) w)
  have HSO := Lib.hid (sortedF A.mb c D drr.ptrE (idS e.L) w hmp hsz (idS_asc h.ap) (fun x => by rw [hrd.has x, idS_mem, fnd_isSome]))
  clear h hmp hrd hsz
  go_enter Try.func59, Try.ntmps59
  go_wp2_with fail
  refine HKY.out.mono ?_
  rintro x w1 ⟨rfl, rfl⟩
  go_wp2_with fail
  refine HSO.out.mono ?_
  rintro x w2 ⟨v, rfl, ho, hv, hn⟩
  have HO : Hid (Gr IntE 3 w w2 v (idS e.L)) := Lib.hid ⟨ho, hv, hn⟩
  clear ho hv hn
  go_wp2
  go_ret
  exact ⟨v, rfl, HO.out⟩
end Go.Proofs.Ytcppibjllaablaa.egr

/-
  egress.Out: whose turn it is, as a pure function of the flows.
-/
namespace Go.Proofs.Ytcppibjllaablaa.egr
open Go.RowKit mem Go.Maps
open Go.Proofs.Ytcppibjllaablaa.itr
set_option linter.unusedVariables false

/-- the heads of pictures, the oldest sound -/
structure Nx where
  H : drr.Hs
  b : Option Snt
def stepN (L : List Ef) (s : Nx) (id : Int) : Nx :=
  match fnd L id with
  | none => s
  | some f => match f.q.L with
    | [] => s
    | x :: _ => if f.video = true then ⟨s.H ++ [(id, x.size)], s.b⟩ else
      match s.b with
      | none => ⟨s.H, some ⟨id, x⟩⟩
      | some y => if x.tick < y.x.tick then ⟨s.H, some ⟨id, x⟩⟩ else s
def nx (L : List Ef) (l : List Int) : Nx := l.foldl (stepN L) ⟨[], none⟩
theorem nx_take {L : List Ef} {l : List Int} {k : Nat} {id : Int} (h : l[k]? = some id) : nx L (l.take (k + 1)) = stepN L (nx L (l.take k)) id := by
  rw [drr.take_succ' h]
  unfold nx
  rw [List.foldl_append]; rfl
theorem step_ids (L : List Ef) (s : Nx) (id : Int) : drr.ids (stepN L s id).H = drr.ids s.H ∨ drr.ids (stepN L s id).H = drr.ids s.H ++ [id] := by
  unfold stepN
  split
  · exact .inl rfl
  · split
    · exact .inl rfl
    · split
      · exact .inr (drr.ids_snoc _ _)
      · split
        · exact .inl rfl
        · split
          · exact .inl rfl
          · exact .inl rfl
theorem fold_sub (L : List Ef) : ∀ (l : List Int) (s : Nx), (drr.ids (l.foldl (stepN L) s).H).Sublist (drr.ids s.H ++ l)
  | [], s => by simp
  | x :: l, s => by
    have ih := fold_sub L l (stepN L s x)
    rw [List.foldl_cons]
    rcases step_ids L s x with e | e
    · rw [e] at ih
      exact ih.trans (List.Sublist.append_left (List.sublist_cons_self x l) _)
    · rw [e, List.append_assoc] at ih
      exact ih
theorem nx_sub (L : List Ef) (l : List Int) : (drr.ids (nx L l).H).Sublist l := fold_sub L l ⟨[], none⟩
theorem nx_len (L : List Ef) (l : List Int) : (nx L l).H.length ≤ l.length := by
  have := (nx_sub L l).length_le
  unfold drr.ids at this
  rwa [List.length_map] at this
/-- whence the heads come -/
structure Nok (L : List Ef) (s : Nx) : Prop where
  h : ∀ h ∈ s.H, ∃ f ∈ L, f.id = h.1 ∧ f.video = true ∧ ∃ x, f.q.L[0]? = some x ∧ h.2 = x.size
  b : ∀ y, s.b = some y → ∃ f ∈ L, f.id = y.id ∧ f.video = false ∧ f.q.L[0]? = some y.x
theorem Nok.step {L : List Ef} {s : Nx} (k : Nok L s) (id : Int) : Nok L (stepN L s id) := by
  unfold stepN
  split
  · exact k
  next f hf =>
    obtain ⟨h1, h2⟩ := fnd_some hf
    split
    · exact k
    next x l hl =>
      split
      next hv =>
        refine ⟨fun h hh => ?_, k.b⟩
        rcases List.mem_append.1 hh with hh | hh
        · exact k.h h hh
        · simp at hh; subst hh
          exact ⟨f, h1, h2, hv, x, by rw [hl]; rfl, rfl⟩
      next hv =>
        have hn : ∀ y, some (⟨id, x⟩ : Snt) = some y → ∃ f ∈ L, f.id = y.id ∧ f.video = false ∧ f.q.L[0]? = some y.x := fun y hy => by
          injection hy with hy; subst hy
          exact ⟨f, h1, h2, by simpa using hv, by rw [hl]; rfl⟩
        split
        · exact ⟨k.h, hn⟩
        · split
          · exact ⟨k.h, hn⟩
          · exact k
theorem fold_ok (L : List Ef) : ∀ (l : List Int) (s : Nx), Nok L s → Nok L (l.foldl (stepN L) s)
  | [], _, k => k
  | x :: l, s, k => fold_ok L l _ (k.step x)
theorem nx_ok (L : List Ef) (l : List Int) : Nok L (nx L l) := fold_ok L l _ ⟨fun h hh => (by cases hh), fun y hy => (by cases hy)⟩
def sdef : Option Snt → Snt
  | none => ⟨0, ⟨0, 0, 0, false⟩⟩
  | some y => y
/-- whose turn it is; false: nothing waits; the schedule then -/
def nextS (e : Eo) : Int × Bool × drr.Sc :=
  if (nx e.L (idS e.L)).b.isSome = true ∧ (e.row < e.guard ∨ (nx e.L (idS e.L)).H = []) then ((sdef (nx e.L (idS e.L)).b).id, true, e.s)
  else if (nx e.L (idS e.L)).H = [] then (0, false, drr.chooseS [] e.s)
  else ((drr.chooseS (nx e.L (idS e.L)).H e.s).turn, true, drr.chooseS (nx e.L (idS e.L)).H e.s)
theorem Es.ok_heads {w : World} {A : Ad} {k : Nat} {e : Eo} (h : Es w A k e) : drr.Ok e.s (nx e.L (idS e.L)).H := by
  have hk := nx_ok e.L (idS e.L)
  refine ⟨(idS_asc h.ap).sublist (nx_sub _ _), fun x hx => ?_, fun x hx => ?_⟩
  · obtain ⟨f, hf, h1, h2, _⟩ := hk.h x hx
    exact (h.vs x.1).2 ⟨f, hf, h1, h2⟩
  · obtain ⟨f, hf, h1, h2, y, hy, h3⟩ := hk.h x hx
    have hm := List.mem_of_getElem? hy
    rw [h3, h.sm]
    exact ⟨(h.qs f hf).ok.pos y hm, (h.fq f hf).sz y hm⟩
theorem Es.rg_heads {w : World} {A : Ad} {k : Nat} {e : Eo} (h : Es w A k e) : ∀ x ∈ drr.ids (nx e.L (idS e.L)).H, -9223372036854775808 ≤ x ∧ x ≤ 9223372036854775807 := fun x hx => by
  obtain ⟨f, hf, rfl⟩ := (idS_mem _ _).1 ((nx_sub _ _).subset hx)
  exact h.rg f hf
theorem Es.look1 {w : World} {A : Ad} {k : Nat} {e : Eo} (h : Es w A k e) {f : Ef} (hf : f ∈ e.L) : (Instr.lookup MT (.map (some A.mb)) (.int .i64 f.id) false).run Try.prog w = .ok (.pointer (some ⟨f.fb, 0, none⟩)) w := by
  obtain ⟨c, D, _, hm, hr⟩ := h.map
  obtain ⟨v, ps, hrun, hv⟩ := hm.lookup drr.lawI Try.underlying138 (zeroP w) (zd := .lit (.int .i64 (-1))) (zp := []) rfl (drr.keyI (h.rg f hf).1 (h.rg f hf).2)
  rw [hr.at_ f hf] at hv
  rw [drr.ptrE_inv hv] at hrun
  exact hrun
theorem fives {w : World} {p : Nat} {a b c d e : Value} {T : TypeId} (k : Blk w p #[a, b, c, d, e] T) :
    (w.cell? ⟨p, 0, none⟩ = some a ∧ w.cell? ⟨p, 1, none⟩ = some b ∧ w.cell? ⟨p, 2, none⟩ = some c ∧ w.cell? ⟨p, 3, none⟩ = some d ∧ w.cell? ⟨p, 4, none⟩ = some e) ∧ w.frozen? ⟨p, 0, none⟩ = false ∧ w.frozen? ⟨p, 1, none⟩ = false ∧ w.frozen? ⟨p, 2, none⟩ = false ∧ w.frozen? ⟨p, 3, none⟩ = false ∧ w.frozen? ⟨p, 4, none⟩ = false :=
  ⟨⟨k.cell 0, k.cell 1, k.cell 2, k.cell 3, k.cell 4⟩, k.free 0, k.free 1, k.free 2, k.free 3, k.free 4⟩
/-- the schedule turns: the call's own map -/
theorem Es.call {w w' : World} {A : Ad} {k : Nat} {e : Eo} (h : Es w A k e) {s' : drr.Sc} {c2 : Nat} {D2 : DataW Unit} (hc2 : c2 ≤ k) (hss : drr.Ss w A.sp A.smb c2 D2 e.s) (hs' : drr.Ss w' A.sp A.smb c2 D2 s') (t : Turns (drr.Foot A.sp A.smb e.s) w w') (sim : drr.Sim e.s s') : Es w' A k ⟨e.frames, e.bytes, e.age, e.most, e.guard, e.credit, e.row, e.L, s'⟩ := by
  obtain ⟨c, D, hc, hmp, hr⟩ := h.map
  have off : ∀ {r : Nat} {cs : Array Value} {T : TypeId}, Blk w r cs T → T ≠ 111 → T ≠ 115 → ¬ drr.Foot A.sp A.smb e.s r := fun hb h1 h2 hk => by
    rcases hk with e2 | e2 | ⟨f, hf, e2⟩
    · exact blk_ne hb hss.blk h1 e2
    · exact ownsMap_ne hss.map hb e2.symm
    · exact blk_ne hb (hss.fb f hf) h2 e2.symm
  refine ⟨t.blk h.blk (off h.blk (by decide) (by decide)), ⟨c, D, hc, ownsMap_turns hmp t (fun hk => ?_), hr⟩, fun f hf => t.blk (h.fb f hf) (off (h.fb f hf) (by decide) (by decide)), fun f hf => (h.qs f hf).turns t (off (h.qs f hf).blk (by decide) (by decide)) (fun g hg hk => ?_), ⟨c2, D2, hc2, hs'⟩, h.ap, h.mm, h.rg, ⟨h.cf.f0, h.cf.f1, h.cf.b0, h.cf.b1, h.cf.a0, h.cf.a1, h.cf.m0, h.cf.m1, h.cf.g0, h.cf.g1, h.cf.c0, h.cf.c1⟩, fun f hf => ⟨(h.fq f hf).fr, (h.fq f hf).mo, (h.fq f hf).sz⟩, sim.1.trans h.sm, fun id => ?_⟩
  · rcases hk with e2 | e2 | ⟨f, hf, e2⟩
    · exact ownsMap_ne hmp hss.blk e2
    · exact h.mm e2
    · exact ownsMap_ne hmp (hss.fb f hf) e2.symm
  · rcases hk with e2 | e2 | ⟨f', hf', e2⟩
    · exact own_ne (h.qs f hf).own hss.blk (by decide) (by rw [hg, e2])
    · exact ownsMap_ne_row hss.map (h.qs f hf).own g hg e2.symm
    · exact own_ne (h.qs f hf).own (hss.fb f' hf') (by decide) (by rw [hg, e2])
  · rw [← h.vs id]
    obtain ⟨_, F, e2⟩ := sim
    constructor
    · rintro ⟨f, hf, hid⟩
      rw [show (Eo.s ⟨e.frames, e.bytes, e.age, e.most, e.guard, e.credit, e.row, e.L, s'⟩) = s' from rfl, e2] at hf
      obtain ⟨f', hf', rfl⟩ := drr.upd_mem hf
      exact ⟨f', hf', hid⟩
    · rintro ⟨f, hf, hid⟩
      show ∃ f ∈ s'.L, _
      rw [e2]
      exact ⟨_, drr.upd_mem' hf, hid⟩
end Go.Proofs.Ytcppibjllaablaa.egr
