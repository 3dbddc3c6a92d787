/-
  report.Read over the five packets of ReportAsked.
-/
import Derived.Test.YtfdmgloimibioaaRepNack
namespace Go.Proofs.Ytfdmgloimibioaa.rep
open Go.RowKit mem
set_option linter.unusedVariables false

/-- what the first k of the five packets ask for -/
def stA (e : Bool) (K : List Int) (bits : Int) : Nat → AS
  | 0 => none0
  | 1 => ⟨if e = true then K else [], false, 0, false⟩
  | 2 | 3 => ⟨if e = true then K else [], e, 0, false⟩
  | 4 => ⟨if e = true then K else [], e, if e = true then bits else 0, false⟩
  | _ + 5 => ⟨if e = true then K else [], e, if e = true then bits else 0, e⟩
def pkA (other bits : Int) (ao : Option Addr) (n cc : Nat) (b2 b3 b4 : Nat) : Nat → Value
  | 0 => nackV 0 other ao n cc
  | 1 => pliV 0 other
  | 2 => firV 0 (some ⟨b2, 0, none⟩) 1 1
  | 3 => rembV 0 bits (some ⟨b3, 0, none⟩) 1 1
  | _ + 4 => byeV (some ⟨b4, 0, none⟩) 1 1 ⟨#[]⟩

theorem hasB_one (x q : Int) : hasB (fun _ => x) 1 q = (x == q) := by unfold hasB hasB; simp

theorem five (ssrc other bits : Int) (ao : Option Addr) (cc : Nat) (l : List PP) (b b2 b3 b4 : Nat) (w : World) (h0 : 0 ≤ bits) (hr : RdP w ao l) (hl : l.length ≤ 1000) (hok : ∀ x ∈ l, x.ok)
    (hb : Blk w b #[nackV 0 other ao l.length cc, pliV 0 other, firV 0 (some ⟨b2, 0, none⟩) 1 1, rembV 0 bits (some ⟨b3, 0, none⟩) 1 1, byeV (some ⟨b4, 0, none⟩) 1 1 ⟨#[]⟩] PkT)
    (hb2 : Blk w b2 #[.int .u32 other, .int .u8 0] 102) (hb3 : Blk w b3 #[.int .u32 other] 54) (hb4 : Blk w b4 #[.int .u32 other] 54) :
    Calls Try.prog 31 #[.int .u32 ssrc, .slice (some ⟨b, 0, none⟩) 5 5] w fun e w' => ∃ v, e = .returned (.agg (ascs v (stA (other == ssrc) (sqAll l) bits 5))) ∧ Owns UE U16 w' v (stA (other == ssrc) (sqAll l) bits 5).q ∧ New w w' := by
  have hlim : limF 0 bits = bits := by
    unfold limF
    split
    · rfl
    · omega
  have hll := sqAll_len l
  refine (read_any ssrc (some ⟨b, 0, none⟩) 5 5 (pkA other bits ao l.length cc b2 b3 b4) (stA (other == ssrc) (sqAll l) bits) w rfl (by decide) (.inr ⟨b, 0, rfl, hb.lt, ?_⟩) ?_).mono ?_
  · intro i hi
    rw [Nat.zero_add]
    obtain rfl | rfl | rfl | rfl | rfl : i = 0 ∨ i = 1 ∨ i = 2 ∨ i = 3 ∨ i = 4 := by omega
    · exact hb.cell 0
    · exact hb.cell 1
    · exact hb.cell 2
    · exact hb.cell 3
    · exact hb.cell 4
  · intro k hk p v w' _ _ hn ha
    obtain rfl | rfl | rfl | rfl | rfl : k = 0 ∨ k = 1 ∨ k = 2 ∨ k = 3 ∨ k = 4 := by omega
    · refine (add_nack p v none0 ssrc 0 other ao cc l w' ha (hr.new hn) hl hok (by decide)).mono ?_
      rintro e w2 ⟨rfl, h⟩
      refine ⟨rfl, ?_⟩
      have e1 : ({ none0 with q := if other = ssrc then none0.q ++ sqAll l else none0.q } : AS) = stA (other == ssrc) (sqAll l) bits 1 := by
        unfold stA; by_cases h : other = ssrc <;> simp [h, none0]
      rw [← e1]; exact h
    · refine (add_pli p v _ ssrc 0 other w' ha).mono ?_
      rintro e w2 ⟨rfl, h⟩
      refine ⟨rfl, ?_⟩
      have e1 : ({ stA (other == ssrc) (sqAll l) bits 1 with key := (stA (other == ssrc) (sqAll l) bits 1).key || (other == ssrc) } : AS) = stA (other == ssrc) (sqAll l) bits 2 := by
        simp [stA]
      rw [← e1]; exact h
    · refine (add_fir p v _ ssrc 0 (some ⟨b2, 0, none⟩) 1 1 (fun _ => other) (fun _ => 0) w' ha (.inr ⟨b2, 0, rfl, (hn.blk hb2 (fun h => h)).lt, ?_⟩) (by decide)).mono ?_
      · intro i hi
        obtain rfl : i = 0 := by omega
        exact ⟨(hn.blk hb2 (fun h => h)).cell 0, (hn.blk hb2 (fun h => h)).cell 1⟩
      · rintro e w2 ⟨rfl, h⟩
        refine ⟨rfl, ?_⟩
        have e1 : ({ stA (other == ssrc) (sqAll l) bits 2 with key := (stA (other == ssrc) (sqAll l) bits 2).key || hasB (fun _ => other) 1 ssrc } : AS) = stA (other == ssrc) (sqAll l) bits 3 := by
          rw [hasB_one]; simp [stA]
        rw [← e1]; exact h
    · refine (add_remb p v _ ssrc 0 bits (some ⟨b3, 0, none⟩) 1 1 (fun _ => other) w' ha (.inr ⟨b3, 0, rfl, (hn.blk hb3 (fun h => h)).lt, ?_⟩) (by decide)).mono ?_
      · intro i hi
        obtain rfl : i = 0 := by omega
        exact (hn.blk hb3 (fun h => h)).cell 0
      · rintro e w2 ⟨rfl, h⟩
        refine ⟨rfl, ?_⟩
        have e1 : ({ stA (other == ssrc) (sqAll l) bits 3 with rate := if hasB (fun _ => other) 1 ssrc = true then limF (stA (other == ssrc) (sqAll l) bits 3).rate bits else (stA (other == ssrc) (sqAll l) bits 3).rate } : AS) = stA (other == ssrc) (sqAll l) bits 4 := by
          rw [hasB_one]; simp [stA, hlim]
        rw [← e1]; exact h
    · refine (add_bye p v _ ssrc (some ⟨b4, 0, none⟩) 1 1 ⟨#[]⟩ (fun _ => other) w' ha (.inr ⟨b4, 0, rfl, (hn.blk hb4 (fun h => h)).lt, ?_⟩) (by decide)).mono ?_
      · intro i hi
        obtain rfl : i = 0 := by omega
        exact (hn.blk hb4 (fun h => h)).cell 0
      · rintro e w2 ⟨rfl, h⟩
        refine ⟨rfl, ?_⟩
        have e1 : ({ stA (other == ssrc) (sqAll l) bits 4 with gone := (stA (other == ssrc) (sqAll l) bits 4).gone || hasB (fun _ => other) 1 ssrc } : AS) = stA (other == ssrc) (sqAll l) bits 5 := by
          rw [hasB_one]; simp [stA]
        rw [← e1]; exact h
  · rintro e w' ⟨v, rfl, ho, _, hn⟩
    exact ⟨v, rfl, ho, hn⟩
end Go.Proofs.Ytfdmgloimibioaa.rep
