/-
  ledger.Book: Late.
-/
import Derived.Test.YtnpaajmcahlloaaLedAcc
import Derived.Test.YtnpaajmcahlloaaIntRows
namespace Go.Proofs.Ytnpaajmcahlloaa.led
open Go.RowKit mem
open ints (IE IT ST infoI)
set_option linter.unusedVariables false

def lateB (now age : Int) (x : Fr) : Bool := decide (x.fate = 0) && decide (age ≤ now - x.acc)
/-- those of the first k frames that are late -/
def lateU (L : List Fr) (now age : Int) : Nat → List Int
  | 0 => []
  | k + 1 => match L[k]? with
    | some x => if lateB now age x = true then lateU L now age k ++ [(k : Int)] else lateU L now age k
    | none => lateU L now age k
theorem lateU_len (L : List Fr) (now age : Int) (k : Nat) : (lateU L now age k).length ≤ k := by
  induction k with
  | zero => simp [lateU]
  | succ k ih =>
    unfold lateU
    split
    · split
      · rw [List.length_append]; simp; omega
      · omega
    · omega
theorem lateU_past {L : List Fr} {i : Nat} (h : ∀ k x, k < i → L[k]? = some x → x.fate ≠ 0) (now age : Int) : lateU L now age i = [] := by
  induction i with
  | zero => rfl
  | succ i ih =>
    have h1 := ih (fun k x hk => h k x (by omega))
    unfold lateU
    split
    · rename_i x hx
      rw [if_neg (by unfold lateB; simp [h i x (by omega) hx]), h1]
    · exact h1
theorem lateU_step {L : List Fr} {k : Nat} {x : Fr} (hx : L[k]? = some x) (now age : Int) : lateU L now age (k + 1) = if lateB now age x = true then lateU L now age k ++ [(k : Int)] else lateU L now age k := by
  conv => lhs; unfold lateU
  rw [hx]

set_option maxHeartbeats 1000000 in
theorem late (p : Nat) (v : Value) (L : List Fr) (i : Nat) (now age : Int) (w : World) (h : Bk w p v L i) (n0 : 0 ≤ now) (n1 : now ≤ 1048576) :
    Calls Try.prog 13 #[.pointer (some ⟨p, 0, none⟩), .int .i64 now, .int .i64 age] w fun e w' => ∃ u, e = .returned u ∧ Gr IE IT w w' u (lateU L now age L.length) := by
  have HL := Lib.hid h
  have hlen := h.len
  have c5 := h.c5
  have hil := h.il
  have HPA := Lib.hid (lateU_past h.past now age)
  clear h
  go_enter Try.func13, Try.ntmps13
  go_wp2_with fail
  go_loopw [7, 8] (fun u n wr => ∃ k : Nat, k ≤ L.length ∧ n = .int .i64 k ∧ Gr IE IT w wr u (lateU L now age k)) (fun _ n _ => L.length - (intOf n).toNat)
  case atStart => exact ⟨i, hil, rfl, by rw [HPA.out]; exact Gr.nil _ _ _ _ (Turns.refl _ _)⟩
  case round =>
    obtain ⟨k, hk, rfl, hg⟩ := hrel
    clear HPA c5
    have HG := Lib.hid hg
    have hb := HL.out.later hg.n
    obtain ⟨ao, c, hv, hc, hat⟩ := hb.at_
    have c0 := hb.c0
    clear hg
    by_cases hlt : k < L.length
    · obtain ⟨x, hx⟩ : ∃ x, L[k]? = some x := ⟨_, List.getElem?_eq_getElem hlt⟩
      obtain ⟨g, rfl, hgp, hg, z0, z1, z2⟩ := hat k x hx
      have hxo := hb.ok x (List.mem_of_getElem? hx)
      have HW := Lib.hid (fun W => waited x now W hxo n0 n1)
      have HST := Lib.hid (lateU_step hx now age)
      have HLB : Hid (lateB now age x = (decide (x.fate = 0) && decide (age ≤ now - x.acc)) ∧ waitedF x now = if x.fate = 0 then now - x.acc else x.en - x.acc) := Lib.hid ⟨rfl, rfl⟩
      have hul := lateU_len L now age k
      clear hat hb hx hxo
      obtain ⟨acc, fate, en⟩ := x
      subst hv
      dsimp only at *
      generalize hlL : L.length = len at *
      have HLL := Lib.hid hlL
      clear hlL
      have hltI : (k : Int) < (len : Int) := by omega
      have dlt : decide ((k : Int) < (len : Int)) = true := decide_eq_true hltI
      have BP : Hid (Blk (wr.alloc (.cells #[.int .i64 acc, .int .i64 fate, .int .i64 en] 55)) wr.heap.size #[.int .i64 acc, .int .i64 fate, .int .i64 en] 55) := Lib.hid (Blk.new _ _ _)
      have HG2 : Hid (Gr IE IT w (wr.alloc (.cells #[.int .i64 acc, .int .i64 fate, .int .i64 en] 55)) u7 (lateU L now age k)) := Lib.hid (HG.out.later ((Turns.refl _ _).alloc _))
      go_upto_region 6 with fail
      refine (show Code.wp _ _ _ _ (wr.alloc (.cells #[.int .i64 acc, .int .i64 fate, .int .i64 en] 55)) from ?_)
      generalize wr.alloc (.cells #[.int .i64 acc, .int .i64 fate, .int .i64 en] 55) = w2 at *
      generalize wr.heap.size = pp at *
      clear c0 z0 z1 z2 hg HG
      have b0 : w2.cell? ⟨pp, 0, none⟩ = some (.int .i64 acc) := BP.out.cell 0
      have b1 : w2.cell? ⟨pp, 1, none⟩ = some (.int .i64 fate) := BP.out.cell 1
      have b2 : w2.cell? ⟨pp, 2, none⟩ = some (.int .i64 en) := BP.out.cell 2
      by_cases hf : fate = 0
      · have hb : (fate == 0) = true := by simp [hf]
        rw [if_pos hf] at HLB
        have HF0 := Lib.hid hf
        clear hf
        by_cases ha : age ≤ now - acc
        · have da : decide (age ≤ now - acc) = true := decide_eq_true ha
          have HB : Hid (lateB now age ⟨acc, fate, en⟩ = true) := Lib.hid (by rw [HLB.out.1, da, HF0.out]; rfl)
          rw [HB.out, if_pos rfl] at HST
          have HW2 := Lib.hid (HW.out w2)
          rw [HLB.out.2] at HW2
          clear ha HW HLB
          go_wp2_with (at_builtin; fail)
          refine HW2.out.mono ?_
          rintro e w3 ⟨rfl, n3⟩
          have HG3 := Lib.hid (HG2.out.later n3)
          clear HW2 n3 b0 b1 b2 HG2 BP
          go_wp2_with (at_builtin; refine wpList_append_one (E := IE) Try.underlying41 infoI rfl (by decide) (by decide) rfl _ _ rfl _ (lateU L now age k) (k : Int) rfl (HG3.out.own.turns (S := fun _ => False) ((Turns.refl _ _).alloc _) (fun _ _ h => h)) w3.heap.size rfl (heap_alloc_new w3 _) (by omega) ?_; intro v6 w6 hown6 hgrow6 hat6)
          have HG6 := Lib.hid (HG3.out.push hown6 hgrow6 hat6)
          clear hown6 hgrow6 hat6
          go_roundw
          case rel => exact ⟨k + 1, by omega, by go_num, by rw [HST.out]; exact HG6.out⟩
          case measure => simp [intOf]; omega
        · have da : decide (age ≤ now - acc) = false := decide_eq_false ha
          have HB : Hid (lateB now age ⟨acc, fate, en⟩ = false) := Lib.hid (by rw [HLB.out.1, da, HF0.out]; rfl)
          rw [HB.out, if_neg (by decide)] at HST
          have HW2 := Lib.hid (HW.out w2)
          rw [HLB.out.2] at HW2
          clear ha HW HLB
          go_wp2_with (at_builtin; fail)
          refine HW2.out.mono ?_
          rintro e w3 ⟨rfl, n3⟩
          have HG3 := Lib.hid (HG2.out.later n3)
          clear HW2 n3 b0 b1 b2 HG2 BP
          go_wp2_with fail
          go_roundw
          case rel => exact ⟨k + 1, by omega, by go_num, by rw [HST.out]; exact HG3.out⟩
          case measure => simp [intOf]; omega
      · have hb : (fate == 0) = false := by simp [hf]
        have HB : Hid (lateB now age ⟨acc, fate, en⟩ = false) := Lib.hid (by rw [HLB.out.1]; simp [hf])
        rw [HB.out, if_neg (by decide)] at HST
        clear hf HW HLB
        go_wp2_with fail
        go_roundw
        case rel => exact ⟨k + 1, by omega, by go_num, by rw [HST.out]; exact HG2.out⟩
        case measure => simp [intOf]; omega
    · have hkl : k = L.length := by omega
      clear hat hb
      have HKL := Lib.hid hkl
      clear hkl
      subst hv
      generalize hlL : L.length = len at *
      have HLL := Lib.hid hlL
      clear hlL
      have dlt : decide ((k : Int) < (len : Int)) = false := decide_eq_false (by omega)
      go_wp2_with fail
      go_ret
      exact ⟨_, rfl, by first | (rw [HLL.out, ← HKL.out]; exact HG.out) | (rw [← HKL.out]; exact HG.out)⟩
end Go.Proofs.Ytnpaajmcahlloaa.led
