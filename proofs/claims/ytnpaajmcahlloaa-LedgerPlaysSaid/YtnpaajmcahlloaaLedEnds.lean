/-
  LedgerEnds: the law.
-/
import Derived.Test.YtnpaajmcahlloaaLedAwake
import Derived.Test.YtnpaajmcahlloaaIntRows
import Derived.Test.YtnpaajmcahlloaaArgs
import Derived.Test.YtnpaajmcahlloaaMask
import Derived.Laws.MakeOwn
namespace Go.Proofs.Ytnpaajmcahlloaa.led
open Go.RowKit mem
open ints (IE IT ST infoI)
set_option linter.unusedVariables false

/-- a block of whole numbers -/
abbrev nums (L : List Int) : Array Value := (L.map (Value.int .i64)).toArray
theorem nums_at (L : List Int) (j : Nat) (x : Int) (h : L[j]? = some x) : (nums L)[j]? = some (.int .i64 x) := by
  obtain ⟨hj, rfl⟩ := List.getElem?_eq_some_iff.1 h
  simp [nums, hj]
theorem nums_set (L : List Int) (j : Nat) (x : Int) : (nums L).setIfInBounds j (.int .i64 x) = nums (L.set j x) := by
  apply Array.ext'
  simp [nums, List.map_set]
theorem info_int : ∃ i, Try.prog.info? 3 = some i ∧ i.zero = some (.int .i64 0) ∧ i.size = 1 ∧ i.bytes = 8 := infoOf infoI
theorem make_int (n : Nat) (hn : n ≤ 100) (w : World) : (Instr.makeSlice 41 (.int .i64 (n : Int)) (.int .i64 (n : Int))).run Try.prog w = .ok (.slice (some ⟨w.heap.size, 0, none⟩) n n) (w.alloc (.cells (nums (List.replicate n 0)) 3)) := by
  obtain ⟨i0, hi, hz0, hz1, hz2⟩ := info_int
  have h := run_make (P := Try.prog) w 41 3 i0 (.int .i64 0) Try.underlying41 hi hz0 .i64 .i64 n n (by omega) (Int.le_refl _) (by rw [hz2]; omega) (by omega)
  simp only [Int.toNat_natCast] at h
  rw [hz1] at h
  have e : madeCells (Value.cells (.int .i64 0)) (n * 1) = nums (List.replicate n 0) := by
    apply Array.ext'
    show (madeCells #[.int .i64 0] (n * 1)).toList = _
    rw [Nat.mul_one, toList_madeCells_one]
    simp [nums]
  rw [e] at h
  exact h

section
variable {w w1 w2 : World} {p b : Nat} {v v' : Value} {L L' : List Fr} {i j : Nat} {cs : Array Value} {T : TypeId}
/-- a block of another kind stays -/
theorem Lft.keep (k : Lft w1 w2 p v v' L' j) (h : Bk w1 p v L i) (hb : Blk w1 b cs T) (h1 : T ≠ BT) (h2 : FT ≠ T) : Blk w2 b cs T :=
  k.t.blk hb (fun e => by
    rcases e with e | e
    · exact blk_ne hb h.blk h1 e
    · exact own_ne h.own hb h2 e.symm)
/-- another block is stored into -/
theorem Own.aside (h : Own w w1 p v L i) (hb : Blk w1 b cs T) (h1 : T ≠ BT) (h2 : FT ≠ T) (hw : w.heap.size ≤ b) (t : Turns (· = b) w1 w2) : Own w w2 p v L i :=
  ⟨h.bk.turns t (fun e => blk_ne hb h.bk.blk h1 e.symm) (fun g hg e => own_ne h.bk.own hb h2 (by rw [hg, e])), h.n.trans (t.mono (fun m _ hm => .inr (by rw [hm]; exact hw))), h.p0, h.vb⟩
end

/-- the first k frames of the laws -/
def firstL (k : Nat) : List Fr := (List.range k).map (fun (j : Nat) => ⟨(j : Int), 0, 0⟩)
theorem firstL_succ (k : Nat) : firstL (k + 1) = firstL k ++ [⟨(k : Int), 0, 0⟩] := by
  unfold firstL
  rw [List.range_succ, List.map_append]; rfl
theorem firstL_len (k : Nat) : (firstL k).length = k := by unfold firstL; rw [List.length_map, List.length_range]
theorem firstL_fate (k : Nat) : (firstL k).map (·.fate) = List.replicate k 0 := by
  induction k with
  | zero => rfl
  | succ k ih => rw [firstL_succ, List.map_append, ih, List.replicate_succ']; rfl

/-- i ends have come round: who is pending -/
structure Rd (L : List Fr) (N i : Nat) : Prop where
  len : L.length = N
  f : ∀ (k : Nat) (x : Fr), L[k]? = some x → (x.fate = 0 ↔ i ≤ k)
theorem Rd.first (N : Nat) : Rd (firstL N) N 0 := ⟨firstL_len N, fun k x hx => by
  have h : ((firstL N).map (·.fate))[k]? = some x.fate := by rw [List.getElem?_map, hx]; rfl
  rw [firstL_fate, List.getElem?_replicate] at h
  split at h
  · injection h with h
    constructor
    · intro _; omega
    · intro _; omega
  · cases h⟩
theorem cnt_rd (L : List Fr) (i : Nat) (h : ∀ (k : Nat) (x : Fr), L[k]? = some x → (x.fate = 0 ↔ i ≤ k)) : cnt 0 L = L.length - i := by
  induction L generalizing i with
  | nil => simp [cnt]
  | cons z L ih =>
    have h1 := ih (i - 1) (fun k x hx => by
      have := h (k + 1) x (by simpa using hx)
      rw [this]; omega)
    have h0 := h 0 z rfl
    unfold cnt at *
    rw [List.countP_cons, h1]
    by_cases hz : z.fate = 0
    · have hi : i = 0 := by have := h0.1 hz; omega
      simp [hz, hi]
    · have hi : ¬ i ≤ 0 := fun e => hz (h0.2 e)
      simp [hz]; omega
theorem Rd.ends {L : List Fr} {N i k : Nat} {x : Fr} (h : Rd L N i) (hk : k = i % N) (hx : L[k]? = some x) {f now : Int} (hf : 1 ≤ f) : Rd (if x.fate = 0 then L.set k (endX x f now) else L) N (i + 1) := by
  have hN : k < N := by rw [← h.len]; exact (List.getElem?_eq_some_iff.1 hx).1
  have hki : x.fate = 0 ↔ i = k := by
    rw [h.f k x hx]
    by_cases e : i < N
    · rw [Nat.mod_eq_of_lt e] at hk; omega
    · omega
  split
  · rename_i h0
    have e := hki.1 h0
    refine ⟨by rw [List.length_set]; exact h.len, fun j y hy => ?_⟩
    by_cases ej : j = k
    · subst ej
      rw [List.getElem?_set_self (by rw [h.len]; exact hN)] at hy
      injection hy with hy
      rw [← hy]
      constructor
      · intro e2; have e2' : f = 0 := e2; omega
      · intro e2; omega
    · rw [List.getElem?_set_ne (by omega)] at hy
      rw [h.f j y hy]; omega
  · rename_i h0
    refine ⟨h.len, fun j y hy => ?_⟩
    rw [h.f j y hy]
    have h1 : ¬ i = k := fun e => h0 (hki.2 e)
    have h2 : ¬ i < N := fun e => by rw [Nat.mod_eq_of_lt e] at hk; omega
    have h3 : j < N := by rw [← h.len]; exact (List.getElem?_eq_some_iff.1 hy).1
    omega

/-- the state of LedgerEnds -/
structure Ee (w wr : World) (p bf : Nat) (v : Value) (L : List Fr) (i : Nat) : Prop where
  o : Own w wr p v L i
  b : Blk wr bf (nums (L.map (·.fate))) IT
  le : w.heap.size ≤ bf
theorem Ee.later {w wr w2 : World} {p bf : Nat} {v : Value} {L : List Fr} {i : Nat} (h : Ee w wr p bf v L i) (n : New wr w2) : Ee w w2 p bf v L i := ⟨h.o.later n, n.blk h.b (fun h => h), h.le⟩

set_option maxRecDepth 10000 in
set_option maxHeartbeats 2000000 in
theorem ends_law (a : Int) (ao : Option Addr) (n c : Nat) (z : Nat → Int) (w : World) (a0 : -9223372036854775808 ≤ a) (a1 : a ≤ 9223372036854775807) (h : args.IntRow .i64 w ao n c z) :
    Calls Try.prog 5 #[.int .i64 a, .slice ao n c] w fun e w' => e = .returned (.bool true) ∧ Below w.heap.size w w' := by
  have HA := Lib.hid (awake w)
  obtain ⟨hn, _, hrow⟩ := h
  have HROW := Lib.hid hrow
  clear hrow
  unfold maxLen at hn
  have M4 := mask.mask4 a
  obtain ⟨N, hN, hN0, hN1⟩ : ∃ N : Nat, 1 + a % 16 = (N : Int) ∧ 1 ≤ N ∧ N ≤ 16 := ⟨(1 + a % 16).toNat, by omega, by omega, by omega⟩
  have W1 : IntKind.i64.wrap (1 + a % 16) = (N : Int) := by rw [hN]; exact IntWalk.i64_in _ (by omega)
  go_enter Try.func5, Try.ntmps5
  go_wp2_with fail
  refine HA.out.mono ?_
  rintro e w1 ⟨rfl, n1⟩
  have HO := Lib.hid (zero n1)
  clear n1 HA
  go_upto_region 5 with fail
  refine (show Code.wp _ _ _ _ (w1.alloc (.cells #[.slice none 0 0, .int .i64 0, .int .i64 0, .int .i64 0, .int .i64 0, .int .i64 0] BT)) from ?_)
  generalize (w1.alloc (.cells #[.slice none 0 0, .int .i64 0, .int .i64 0, .int .i64 0, .int .i64 0, .int .i64 0] BT)) = w2 at *
  generalize w1.heap.size = p at *
  clear M4 W1 hN a0 a1
  have hmk := make_int N (by omega) w2
  have HB : Hid (Own w (w2.alloc (.cells (nums (List.replicate N 0)) IT)) p (.slice none 0 0) [] 0 ∧ Blk (w2.alloc (.cells (nums (List.replicate N 0)) IT)) w2.heap.size (nums (List.replicate N 0)) IT ∧ w.heap.size ≤ w2.heap.size) := Lib.hid ⟨HO.out.later ((Turns.refl _ _).alloc _), Blk.new _ _ _, HO.out.n.size⟩
  clear HO
  go_wp2_with fail
  generalize w2.alloc (.cells (nums (List.replicate N 0)) IT) = w3 at *
  generalize w2.heap.size = bf at *
  go_loopw [24] (fun i wr => ∃ (k : Nat) (v : Value), k ≤ N ∧ i = .int .i64 k ∧ Own w wr p v (firstL k) 0 ∧ Blk wr bf (nums (List.replicate N 0)) IT) (fun i _ => N - (intOf i).toNat)
  case atStart => exact ⟨0, _, by omega, rfl, HB.out.1, HB.out.2.1⟩
  case round =>
    obtain ⟨k, v, hk, rfl, ho, hb⟩ := hrel
    have HO := Lib.hid ho
    have HK := Lib.hid hb
    have HLE := Lib.hid HB.out.2.2
    clear ho hb hmk HB
    by_cases hlt : k < N
    · have d1 : decide ((k : Int) < (N : Int)) = true := decide_eq_true (by omega)
      have hfl := firstL_len k
      have HAC := Lib.hid (accept p v (firstL k) 0 (k : Int) wr HO.out.bk (by omega) (by omega) (by omega))
      go_wp2_with fail
      refine HAC.out.mono ?_
      rintro e w4 ⟨v4, rfl, l4⟩
      have HO4 := Lib.hid (HO.out.lft l4)
      have HK4 := Lib.hid (l4.keep HO.out.bk HK.out (by decide) (by decide))
      clear l4 HAC
      go_wp2_with fail
      go_roundw
      case rel => exact ⟨k + 1, v4, by omega, by go_num, by rw [firstL_succ]; exact HO4.out, HK4.out⟩
      case measure => simp [intOf]; omega
    · obtain rfl : k = N := by omega
      have d1 : decide ((k : Int) < (k : Int)) = false := decide_eq_false (by omega)
      have HE0 : Hid (Ee w wr p bf v (firstL k) 0) := Lib.hid ⟨HO.out, by rw [firstL_fate]; exact HK.out, HLE.out⟩
      have HR0 := Lib.hid (Rd.first k)
      clear hlt HO HK HLE
      go_wp2_with fail
      obtain ⟨wo, rfl⟩ : ∃ wo : World, wo = wr := ⟨_, rfl⟩
      go_loopw [8] (fun i wx => ∃ (i' j : Nat) (L : List Fr), i' ≤ 60 ∧ i' ≤ n ∧ i = .int .i64 i' ∧ Ee w wx p bf v L j ∧ Rd L k i') (fun i _ => 60 - (intOf i).toNat)
      case atStart => exact ⟨0, 0, _, by omega, by omega, rfl, HE0.out, HR0.out⟩
      case round =>
        obtain ⟨i, j, L, hi, hin, rfl, he, hr⟩ := hrel
        have HE := Lib.hid he
        have HR := Lib.hid hr
        clear he hr HE0 HR0
        by_cases hgo : i < n ∧ i < 60
        · obtain ⟨h1, h2⟩ := hgo
          obtain ⟨b, off, rfl, hb, hc⟩ := HROW.out.resolve_left (by omega)
          have e0 := (HE.out.o.n.cell (a := ⟨b, off + i, none⟩) hb (fun h => h)).trans (hc i h1)
          have M8 := mask.mask8 (z i)
          generalize z i = zi at *
          have T2 : (zi % 256).tmod 3 = zi % 256 % 3 := Int.tmod_eq_emod_of_nonneg (by omega)
          obtain ⟨f, hf⟩ : ∃ f, f = 1 + zi % 256 % 3 := ⟨_, rfl⟩
          have hf3 : 1 ≤ f ∧ f ≤ 3 := by omega
          have W2 : IntKind.i64.wrap (1 + zi % 256 % 3) = f := by rw [← hf]; exact IntWalk.i64_in _ (by omega)
          obtain ⟨kk, hkk⟩ : ∃ kk : Nat, kk = i % k := ⟨_, rfl⟩
          have hkl : kk < k := by rw [hkk]; exact Nat.mod_lt _ (by omega)
          have T1 : (i : Int).tmod (k : Int) = (kk : Int) := by rw [hkk, Int.tmod_eq_emod_of_nonneg (by omega)]; rfl
          have T1b : (i : Int) % (k : Int) = (kk : Int) := by rw [hkk]; rfl
          have Z1 : ((k : Int) == 0) = false := by simp; omega
          have d1 : decide ((i : Int) < (n : Int)) = true := decide_eq_true (by omega)
          have d2 : decide ((i : Int) < 60) = true := decide_eq_true (by omega)
          have j1 : (kk : Int) < (k : Int) := by omega
          have j2 : (i : Int) < (n : Int) := by omega
          obtain ⟨x, hx⟩ : ∃ x, L[kk]? = some x := ⟨_, List.getElem?_eq_getElem (by rw [HR.out.len]; exact hkl)⟩
          have HX := Lib.hid hx
          have HEN := Lib.hid (fun m => end_ p v L j (kk : Int) f (100 + (i : Int)) (wr.drewN m) (HE.out.later ((Turns.refl _ _).drewN m)).o.bk (by omega) (by omega))
          have HRN := Lib.hid (HR.out.ends hkk hx (f := f) (now := 100 + (i : Int)) hf3.1)
          have W3 : IntKind.i64.wrap (100 + (i : Int)) = 100 + (i : Int) := IntWalk.i64_in _ (by omega)
          by_cases h0 : x.fate = 0
          · have hee := end_ok (f := f) (100 + (i : Int)) hx hf3 h0
            rw [hee.1, hee.2] at HEN
            rw [if_pos h0] at HRN
            have HX0 := Lib.hid h0
            clear hee h0 hx hc hf hkk
            go_upto_region 14 with fail
            go_quiet (fail)
            go_wp2_with fail
            refine (HEN.out _).mono ?_
            rintro e w5 ⟨rfl, j5, l5⟩
            have HO5 := Lib.hid ((HE.out.later ((Turns.refl _ _).drewN _)).o.lft l5)
            have HB5 := Lib.hid (l5.keep (HE.out.later ((Turns.refl _ _).drewN _)).o.bk (HE.out.later ((Turns.refl _ _).drewN _)).b (by decide) (by decide))
            clear l5 HEN e0
            have y0 : w5.cell? ⟨bf, kk, none⟩ = some (.int .i64 0) := (HB5.out.cell kk).trans (nums_at _ _ _ (by rw [List.getElem?_map, HX.out]; exact congrArg some HX0.out))
            have q0 := HB5.out.free kk
            have HE6 : Hid (Ee w (w5.setCell ⟨bf, kk, none⟩ (.int .i64 f)) p bf v (L.set kk (endX x f (100 + (i : Int)))) j5) := Lib.hid ⟨HO5.out.aside HB5.out (by decide) (by decide) HE.out.le ((Turns.refl (· = bf) w5).setCell (.inl rfl) _), by
              have := HB5.out.set kk (.int .i64 f)
              rw [nums_set] at this
              rw [List.map_set]
              exact this, HE.out.le⟩
            go_wp2_with fail
            go_roundw
            case rel => exact ⟨i + 1, j5, _, by omega, by omega, by go_num, HE6.out, HRN.out⟩
            case measure => simp [intOf]; omega
          · have hee := end_twice (f := f) (100 + (i : Int)) hx hf3 h0
            rw [hee.1, hee.2] at HEN
            rw [if_neg h0] at HRN
            have z0 : (x.fate == 0) = false := by simp [h0]
            clear hee h0 hx hc hf hkk
            go_upto_region 14 with fail
            go_quiet (fail)
            go_wp2_with fail
            refine (HEN.out _).mono ?_
            rintro e w5 ⟨rfl, j5, l5⟩
            have HO5 := Lib.hid ((HE.out.later ((Turns.refl _ _).drewN _)).o.lft l5)
            have HB5 := Lib.hid (l5.keep (HE.out.later ((Turns.refl _ _).drewN _)).o.bk (HE.out.later ((Turns.refl _ _).drewN _)).b (by decide) (by decide))
            clear l5 HEN e0
            have y0 : w5.cell? ⟨bf, kk, none⟩ = some (.int .i64 x.fate) := (HB5.out.cell kk).trans (nums_at _ _ _ (by rw [List.getElem?_map, HX.out]; rfl))
            have HE6 : Hid (Ee w w5 p bf v L j5) := Lib.hid ⟨HO5.out, HB5.out, HE.out.le⟩
            generalize x.fate = xf at *
            go_wp2_with fail
            go_roundw
            case rel => exact ⟨i + 1, j5, _, by omega, by omega, by go_num, HE6.out, HRN.out⟩
            case measure => simp [intOf]; omega
        · have hie : i = min n 60 := by omega
          have hx : ¬ i < n ∨ (i < n ∧ ¬ i < 60) := by omega
          have HIE := Lib.hid hie
          clear hie hgo
          rcases hx with h1 | ⟨h1, h2⟩
          · obtain ⟨wp, rfl⟩ : ∃ wp : World, wp = wr := ⟨_, rfl⟩
            go_wp2_with fail
            go_loopw [82] (fun i wx => ∃ (q : Nat), q ≤ k ∧ i = .int .i64 q ∧ Ee w wx p bf v L j) (fun i _ => k - (intOf i).toNat)
            case atStart => exact ⟨0, by omega, rfl, HE.out⟩
            case round =>
              obtain ⟨q, hq, rfl, he⟩ := hrel
              have HE2 := Lib.hid he
              clear he HE
              by_cases hlt : q < k
              · obtain ⟨x, hx⟩ : ∃ x, L[q]? = some x := ⟨_, List.getElem?_eq_getElem (by rw [HR.out.len]; exact hlt)⟩
                have e0 : wr.cell? ⟨bf, q, none⟩ = some (.int .i64 x.fate) := (HE2.out.b.cell q).trans (nums_at _ _ _ (by rw [List.getElem?_map, hx]; rfl))
                have HF := fate_ p v L j (q : Int) 1000 wr HE2.out.o.bk (by decide) (by decide)
                have hff : fateF L (q : Int) 1000 = (x.fate, waitedF x 1000) := by
                  unfold fateF
                  rw [show (q : Int).toNat = q by omega, hx]
                  simp
                rw [hff] at HF
                have HF := Lib.hid HF
                have d3 : decide ((q : Int) < (k : Int)) = true := decide_eq_true (by omega)
                have j1 : (q : Int) < (k : Int) := by omega
                clear hx hff
                generalize x.fate = xf at *
                generalize waitedF x 1000 = wf at *
                go_wp2_with fail
                refine HF.out.mono ?_
                rintro e w5 ⟨rfl, n5⟩
                have HE5 := Lib.hid (HE2.out.later n5)
                clear n5 HF e0
                go_wp2_with fail
                go_roundw
                case rel => exact ⟨q + 1, by omega, by go_num, HE5.out⟩
                case measure => simp [intOf]; omega
              · obtain rfl : q = k := by omega
                have d3 : decide ((q : Int) < (q : Int)) = false := decide_eq_false (by omega)
                have HC := Lib.hid (count p v L j 0 wr HE2.out.o.bk)
                have hcn : cntF 0 L = q - i := by
                  unfold cntF
                  rw [if_pos (by decide), cnt_rd L i HR.out.f, HR.out.len]
                rw [hcn] at HC
                clear hcn hlt
                go_wp2_with fail
                refine HC.out.mono ?_
                rintro e w5 ⟨rfl, rfl⟩
                clear HC
                go_wp2_with fail
                all_goals
                  go_ret
                  have hie := HIE.out
                  exact ⟨congrArg (fun b => Ending.returned (Value.bool b)) (beq_iff_eq.2 (by omega)), HE2.out.o.below⟩
          · obtain ⟨wp, rfl⟩ : ∃ wp : World, wp = wr := ⟨_, rfl⟩
            go_wp2_with fail
            go_loopw [82] (fun i wx => ∃ (q : Nat), q ≤ k ∧ i = .int .i64 q ∧ Ee w wx p bf v L j) (fun i _ => k - (intOf i).toNat)
            case atStart => exact ⟨0, by omega, rfl, HE.out⟩
            case round =>
              obtain ⟨q, hq, rfl, he⟩ := hrel
              have HE2 := Lib.hid he
              clear he HE
              by_cases hlt : q < k
              · obtain ⟨x, hx⟩ : ∃ x, L[q]? = some x := ⟨_, List.getElem?_eq_getElem (by rw [HR.out.len]; exact hlt)⟩
                have e0 : wr.cell? ⟨bf, q, none⟩ = some (.int .i64 x.fate) := (HE2.out.b.cell q).trans (nums_at _ _ _ (by rw [List.getElem?_map, hx]; rfl))
                have HF := fate_ p v L j (q : Int) 1000 wr HE2.out.o.bk (by decide) (by decide)
                have hff : fateF L (q : Int) 1000 = (x.fate, waitedF x 1000) := by
                  unfold fateF
                  rw [show (q : Int).toNat = q by omega, hx]
                  simp
                rw [hff] at HF
                have HF := Lib.hid HF
                have d3 : decide ((q : Int) < (k : Int)) = true := decide_eq_true (by omega)
                have j1 : (q : Int) < (k : Int) := by omega
                clear hx hff
                generalize x.fate = xf at *
                generalize waitedF x 1000 = wf at *
                go_wp2_with fail
                refine HF.out.mono ?_
                rintro e w5 ⟨rfl, n5⟩
                have HE5 := Lib.hid (HE2.out.later n5)
                clear n5 HF e0
                go_wp2_with fail
                go_roundw
                case rel => exact ⟨q + 1, by omega, by go_num, HE5.out⟩
                case measure => simp [intOf]; omega
              · obtain rfl : q = k := by omega
                have d3 : decide ((q : Int) < (q : Int)) = false := decide_eq_false (by omega)
                have HC := Lib.hid (count p v L j 0 wr HE2.out.o.bk)
                have hcn : cntF 0 L = q - i := by
                  unfold cntF
                  rw [if_pos (by decide), cnt_rd L i HR.out.f, HR.out.len]
                rw [hcn] at HC
                clear hcn hlt
                go_wp2_with fail
                refine HC.out.mono ?_
                rintro e w5 ⟨rfl, rfl⟩
                clear HC
                go_wp2_with fail
                all_goals
                  go_ret
                  have hie := HIE.out
                  exact ⟨congrArg (fun b => Ending.returned (Value.bool b)) (beq_iff_eq.2 (by omega)), HE2.out.o.below⟩
end Go.Proofs.Ytnpaajmcahlloaa.led
