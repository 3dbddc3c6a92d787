/-
  The reference of layer 25: End, Count, Late.
-/
import Derived.Test.YtnpaajmcahlloaaLedEnd
import Derived.Test.YtnpaajmcahlloaaLedLate
namespace Go.Proofs.Ytnpaajmcahlloaa.led
open Go.RowKit mem
open ints (IE IT ST infoI)
set_option linter.unusedVariables false

abbrev OT : TypeId := 33
def OE : Enc Fr := ⟨3, fun x => [.int .i64 x.acc, .int .i64 x.en, .int .i64 x.fate], fun _ => rfl, fun x u hu => by
  simp at hu
  rcases hu with rfl | rfl | rfl <;> rfl⟩
theorem infoO : (Try.prog.info? OT).map (fun i => (i.zero, i.size, i.bytes)) = some (some (.agg #[.int .i64 0, .int .i64 0, .int .i64 0]), 3, 24) := by kernel_rfl
/-- the reference's list: a row that is owned -/
structure Rl (w : World) (v : Value) (L : List Fr) : Prop where
  own : Owns OE OT w v L
  len : L.length ≤ 1000
  ok : ∀ x ∈ L, x.ok
section
variable {w : World} {v : Value} {L : List Fr} (h : Rl w v L)
include h
theorem Rl.turns {S : Nat → Prop} {w' : World} (ht : Turns S w w') (hv : ∀ g, v.ownBlock = some g → ¬ S g) : Rl w' v L := ⟨h.own.turns ht hv, h.len, h.ok⟩
theorem Rl.later {w' : World} (n : New w w') : Rl w' v L := h.turns n (fun _ _ h => h)
theorem Rl.at_ : ∃ (ao : Option Addr) (c : Nat), v = .slice ao L.length c ∧ L.length ≤ c ∧ (∀ (k : Nat) (x : Fr), L[k]? = some x → ∃ g, ao = some ⟨g, 0, none⟩ ∧ g < w.heap.size ∧ w.cell? ⟨g, k * 3, none⟩ = some (.int .i64 x.acc) ∧ w.cell? ⟨g, k * 3 + 1, none⟩ = some (.int .i64 x.en) ∧ w.cell? ⟨g, k * 3 + 2, none⟩ = some (.int .i64 x.fate)) := by
  obtain ⟨ao, c, hv, hc, hr, ho⟩ := h.own.form
  refine ⟨ao, c, hv, hc, fun k x hx => ?_⟩
  rcases hr with e | ⟨g, e, hg, hcell⟩
  · rw [e] at hx; simp at hx
  · exact ⟨g, e, hg, hcell k x hx 0 _ rfl, hcell k x hx 1 _ rfl, hcell k x hx 2 _ rfl⟩
end

theorem rcount (v : Value) (L : List Fr) (f : Int) (w : World) (h : Rl w v L) :
    Calls Try.prog 12 #[v, .int .i64 f] w fun e w' => e = .returned (.int .i64 (cnt f L)) ∧ New w w' := by
  have HL := Lib.hid h
  have hlen := h.len
  obtain ⟨ao, c, hv, hc, _⟩ := h.at_
  clear h
  subst hv
  generalize hlL : L.length = len at *
  have HLL := Lib.hid hlL
  clear hlL
  go_enter Try.func12, Try.ntmps12
  go_wp2_with fail
  go_loopw [5, 10] (fun a n wr => ∃ k : Nat, k ≤ len ∧ n = .int .i64 k ∧ a = .int .i64 (cnt f (L.take k)) ∧ New w wr) (fun _ n _ => len - (intOf n).toNat)
  case atStart => exact ⟨0, by omega, rfl, rfl, Turns.refl _ _⟩
  case round =>
    obtain ⟨k, hk, rfl, rfl, hn⟩ := hrel
    have HN := Lib.hid hn
    have hb := HL.out.later hn
    clear hn
    by_cases hlt : k < len
    · obtain ⟨x, hx⟩ : ∃ x, L[k]? = some x := ⟨_, List.getElem?_eq_getElem (by have := HLL.out; omega)⟩
      obtain ⟨ao', c', hv', _, hat⟩ := hb.at_
      obtain ⟨g, hao, hg, z0, z1, z2⟩ := hat k x hx
      rw [HLL.out] at hv'
      injection hv' with e1 _ e3
      subst e1 e3
      subst hao
      have hcl := cnt_le f (L.take k)
      have htl : (L.take k).length ≤ 1000 := by rw [List.length_take]; omega
      have HT : Hid ((cnt f (L.take (k + 1)) : Int) = cnt f (L.take k) + (if x.fate = f then 1 else 0)) := Lib.hid (by
        rw [List.take_add_one, hx]
        have := cnt_push f (L.take k) x
        simp only [Option.toList_some]
        rw [this]
        split <;> simp)
      clear hat hb hx
      generalize cnt f (L.take k) = cn at *
      have hltI : (k : Int) < (len : Int) := by omega
      have dlt : decide ((k : Int) < (len : Int)) = true := decide_eq_true hltI
      obtain ⟨acc, fate, en⟩ := x
      dsimp only at *
      have BP : Hid (Blk (wr.alloc (.cells #[.int .i64 acc, .int .i64 en, .int .i64 fate] OT)) wr.heap.size #[.int .i64 acc, .int .i64 en, .int .i64 fate] OT) := Lib.hid (Blk.new _ _ _)
      have HN2 : Hid (New w (wr.alloc (.cells #[.int .i64 acc, .int .i64 en, .int .i64 fate] OT))) := Lib.hid (HN.out.alloc _)
      go_upto_region 5 with fail
      refine (show Code.wp _ _ _ _ (wr.alloc (.cells #[.int .i64 acc, .int .i64 en, .int .i64 fate] OT)) from ?_)
      generalize wr.alloc (.cells #[.int .i64 acc, .int .i64 en, .int .i64 fate] OT) = w2 at *
      generalize wr.heap.size = pp at *
      clear z0 z1 z2 hg
      have b2 : w2.cell? ⟨pp, 2, none⟩ = some (.int .i64 fate) := BP.out.cell 2
      by_cases hf : fate = f
      · have hb : (fate == f) = true := by simp [hf]
        rw [if_pos hf] at HT
        clear hf
        go_wp2_with fail
        go_roundw
        case rel => exact ⟨k + 1, by omega, by go_num, by rw [HT.out], HN2.out⟩
        case measure => simp [intOf]; omega
      · have hb : (fate == f) = false := by simp [hf]
        rw [if_neg hf] at HT
        clear hf
        go_wp2_with fail
        go_roundw
        case rel => exact ⟨k + 1, by omega, by go_num, by rw [HT.out]; simp, HN2.out⟩
        case measure => simp [intOf]; omega
    · have hkl : k = len := by omega
      subst hkl
      have HTK : Hid (L.take k = L) := Lib.hid (by rw [← HLL.out]; exact List.take_length)
      rw [HTK.out]
      clear hlt hb
      have dlt : decide ((k : Int) < (k : Int)) = false := decide_eq_false (by omega)
      go_wp2_with fail
      go_ret
      exact ⟨rfl, HN.out⟩

set_option maxHeartbeats 1000000 in
theorem rlate (v : Value) (L : List Fr) (now age : Int) (w : World) (h : Rl w v L) (n0 : 0 ≤ now) (n1 : now ≤ 1048576) :
    Calls Try.prog 14 #[v, .int .i64 now, .int .i64 age] w fun e w' => ∃ u, e = .returned u ∧ Gr IE IT w w' u (lateU L now age L.length) := by
  have HL := Lib.hid h
  have hlen := h.len
  obtain ⟨ao, c, hv, hc, _⟩ := h.at_
  have HR0 : Hid (Gr IE IT w (w.alloc (.cells #[] IT)) (.slice (some ⟨w.heap.size, 0, none⟩) 0 0) []) := Lib.hid ⟨ints.Owns.made0 (Blk.new _ _ _), (fun g hg => by simp [Value.ownBlock] at hg; omega), (Turns.refl _ _).alloc _⟩
  clear h
  subst hv
  generalize hlL : L.length = len at *
  have HLL := Lib.hid hlL
  clear hlL
  go_enter Try.func14, Try.ntmps14
  go_wp2_with fail
  go_loopw [7, 13] (fun u n wr => ∃ k : Nat, k ≤ len ∧ n = .int .i64 k ∧ Gr IE IT w wr u (lateU L now age k)) (fun _ n _ => len - (intOf n).toNat)
  case atStart => exact ⟨0, by omega, rfl, HR0.out⟩
  case round =>
    obtain ⟨k, hk, rfl, hg⟩ := hrel
    have HG := Lib.hid hg
    have hb := HL.out.later hg.n
    clear hg HR0
    by_cases hlt : k < len
    · obtain ⟨x, hx⟩ : ∃ x, L[k]? = some x := ⟨_, List.getElem?_eq_getElem (by have := HLL.out; omega)⟩
      obtain ⟨ao', c', hv', _, hat⟩ := hb.at_
      obtain ⟨g, hao, hg, z0, z1, z2⟩ := hat k x hx
      rw [HLL.out] at hv'
      injection hv' with e1 _ e3
      subst e1 e3
      subst hao
      have hxo := hb.ok x (List.mem_of_getElem? hx)
      obtain ⟨a0, a1, _, _, _, _⟩ := hxo
      have HST := Lib.hid (lateU_step hx now age)
      have HLB : Hid (lateB now age x = (decide (x.fate = 0) && decide (age ≤ now - x.acc))) := Lib.hid rfl
      have hul := lateU_len L now age k
      clear hat hb hx
      obtain ⟨acc, fate, en⟩ := x
      dsimp only at *
      have hltI : (k : Int) < (len : Int) := by omega
      have dlt : decide ((k : Int) < (len : Int)) = true := decide_eq_true hltI
      have s1 : IntKind.i64.wrap (now - acc) = now - acc := IntWalk.i64_in _ (by omega)
      have BP : Hid (Blk (wr.alloc (.cells #[.int .i64 acc, .int .i64 en, .int .i64 fate] OT)) wr.heap.size #[.int .i64 acc, .int .i64 en, .int .i64 fate] OT) := Lib.hid (Blk.new _ _ _)
      have HG2 : Hid (Gr IE IT w (wr.alloc (.cells #[.int .i64 acc, .int .i64 en, .int .i64 fate] OT)) u7 (lateU L now age k)) := Lib.hid (HG.out.later ((Turns.refl _ _).alloc _))
      go_upto_region 5 with fail
      refine (show Code.wp _ _ _ _ (wr.alloc (.cells #[.int .i64 acc, .int .i64 en, .int .i64 fate] OT)) from ?_)
      generalize wr.alloc (.cells #[.int .i64 acc, .int .i64 en, .int .i64 fate] OT) = w2 at *
      generalize wr.heap.size = pp at *
      clear z0 z1 z2 hg HG
      have b0 : w2.cell? ⟨pp, 0, none⟩ = some (.int .i64 acc) := BP.out.cell 0
      have b2 : w2.cell? ⟨pp, 2, none⟩ = some (.int .i64 fate) := BP.out.cell 2
      by_cases hf : fate = 0
      · have hb : (fate == 0) = true := by simp [hf]
        have HF0 := Lib.hid hf
        clear hf
        by_cases ha : age ≤ now - acc
        · have da : decide (age ≤ now - acc) = true := decide_eq_true ha
          have HB : Hid (lateB now age ⟨acc, fate, en⟩ = true) := Lib.hid (by rw [HLB.out, da, HF0.out]; rfl)
          rw [HB.out, if_pos rfl] at HST
          clear ha HLB
          go_wp2_with (at_builtin; refine wpList_append_one (E := IE) Try.underlying41 infoI rfl (by decide) (by decide) rfl _ _ rfl _ (lateU L now age k) (k : Int) rfl (HG2.out.own.turns (S := fun _ => False) ((Turns.refl _ _).alloc _) (fun _ _ h => h)) w2.heap.size rfl (heap_alloc_new w2 _) (by omega) ?_; intro v6 w6 hown6 hgrow6 hat6)
          have HG6 := Lib.hid (HG2.out.push hown6 hgrow6 hat6)
          clear hown6 hgrow6 hat6
          go_roundw
          case rel => exact ⟨k + 1, by omega, by go_num, by rw [HST.out]; exact HG6.out⟩
          case measure => simp [intOf]; omega
        · have da : decide (age ≤ now - acc) = false := decide_eq_false ha
          have HB : Hid (lateB now age ⟨acc, fate, en⟩ = false) := Lib.hid (by rw [HLB.out, da, HF0.out]; rfl)
          rw [HB.out, if_neg (by decide)] at HST
          clear ha HLB
          go_wp2_with fail
          go_roundw
          case rel => exact ⟨k + 1, by omega, by go_num, by rw [HST.out]; exact HG2.out⟩
          case measure => simp [intOf]; omega
      · have hb : (fate == 0) = false := by simp [hf]
        have HB : Hid (lateB now age ⟨acc, fate, en⟩ = false) := Lib.hid (by rw [HLB.out]; simp [hf])
        rw [HB.out, if_neg (by decide)] at HST
        clear hf HLB
        go_wp2_with fail
        go_roundw
        case rel => exact ⟨k + 1, by omega, by go_num, by rw [HST.out]; exact HG2.out⟩
        case measure => simp [intOf]; omega
    · have hkl : k = len := by omega
      subst hkl
      clear hlt hb
      have dlt : decide ((k : Int) < (k : Int)) = false := decide_eq_false (by omega)
      go_wp2_with fail
      go_ret
      exact ⟨_, rfl, by first | (rw [HLL.out]; exact HG.out) | exact HG.out⟩
end Go.Proofs.Ytnpaajmcahlloaa.led
