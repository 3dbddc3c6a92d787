/-
  The reference of layer 15: Frame.
-/
import Derived.Test.YtijpgkkhjjpjoaaRewRef
import Derived.Test.YtijpgkkhjjpjoaaRowsG2
namespace Go.Proofs.Ytijpgkkhjjpjoaa.rew
open Go.RowKit mem
set_option linter.unusedVariables false

abbrev RKT : TypeId := 49
abbrev UR : TypeId := 74
theorem infoRK : (Try.prog.info? RKT).map (fun i => (i.zero, i.size, i.bytes)) = some (some (.agg zeroK.toArray), 11, 88) := by kernel_rfl

/-- how the reference's shift and last time go with the stream's -/
structure Lk (o : O) (S La : Int) : Prop where
  f0 : o.fr = 0 → o.sh = 0
  f1 : 0 < o.fr → La = o.lat + S ∧ o.sh = S % 4294967296
theorem timeO_src (o : O) (s a : Int) : (timeO o s a).src = s := by
  unfold timeO
  split
  · rename_i h; unfold lastB at h; simp at h; exact h.2
  · split <;> rfl
theorem lk_time {o : O} {S La : Int} (h : Lk o S La) (hf : 0 ≤ o.fr) (s a : Int) : tL o S La s a % 4294967296 = timeV o s a := by
  unfold tL timeV
  by_cases hz : o.fr = 0
  · have hl : ¬ lastB o s = true := by unfold lastB; rw [hz]; simp
    rw [if_pos hz, if_neg hl]
    unfold timeO shV
    rw [if_neg hl, if_neg (by omega)]
    simp only
    rw [h.f0 hz]; omega
  · obtain ⟨e1, e2⟩ := h.f1 (by omega)
    rw [if_neg hz]
    by_cases hs : o.src = s
    · have hl : lastB o s = true := by unfold lastB; simp [hs]; omega
      rw [if_pos hs, if_pos hl]
      unfold shV
      rw [e1, e2]; omega
    · have hl : ¬ lastB o s = true := by unfold lastB; simp [hs]
      rw [if_neg hs, if_neg hl]
      unfold timeO
      rw [if_neg hl, if_pos (by omega)]
      unfold shV
      simp only
      rw [e1, e2]; omega
theorem packs_keep' (l : List U) : ∀ o : O, (packsO o l).lat = o.lat ∧ (packsO o l).sh = o.sh := by
  induction l with
  | nil => exact fun _ => ⟨rfl, rfl⟩
  | cons u l ih => exact fun o => ih _
theorem lk_next {o : O} {S La : Int} (h : Lk o S La) (hf : 0 ≤ o.fr) (s : Int) (u : U) (l : List U) : Lk (frameO o s (u :: l)) (tS o S La s u.t) (tL o S La s u.t) := by
  have keep := packs_keep' (u :: l) (midO o s u)
  have mk : (midO o s u).lat = (timeO o s u.t).lat ∧ (midO o s u).sh = (timeO o s u.t).sh := by
    unfold midO countO levO
    split
    · split <;> exact ⟨rfl, rfl⟩
    · exact ⟨rfl, rfl⟩
  have e1 : (frameO o s (u :: l)).lat = (timeO o s u.t).lat := keep.1.trans mk.1
  have e2 : (frameO o s (u :: l)).sh = (timeO o s u.t).sh := keep.2.trans mk.2
  have e3 : (frameO o s (u :: l)).fr = o.fr + 1 := rfl
  refine ⟨fun e => by omega, fun _ => ?_⟩
  rw [e1, e2]
  unfold tL tS
  by_cases hz : o.fr = 0
  · have hl : ¬ lastB o s = true := by unfold lastB; rw [hz]; simp
    rw [if_pos hz, if_pos hz]
    unfold timeO
    rw [if_neg hl, if_neg (by omega)]
    simp only
    rw [h.f0 hz]; omega
  · obtain ⟨g1, g2⟩ := h.f1 (by omega)
    rw [if_neg hz, if_neg hz]
    by_cases hs : o.src = s
    · have hl : lastB o s = true := by unfold lastB; simp [hs]; omega
      rw [if_pos hs, if_pos hs]
      unfold timeO
      rw [if_pos hl]
      simp only
      rw [g1]; omega
    · have hl : ¬ lastB o s = true := by unfold lastB; simp [hs]
      rw [if_neg hs, if_neg hs]
      unfold timeO
      rw [if_neg hl, if_pos (by omega)]
      unfold shV
      simp only
      rw [g1, g2]; omega
end Go.Proofs.Ytijpgkkhjjpjoaa.rew
