/-
  'slices.Sorted(maps.Keys(m))' at whole numbers: the rising keys, as a row of its own. slices.BinarySearch.
-/
import Derived.Test.YtcaloeolmoodbaaShelf
import Derived.Test.YtcaloeolmoodbaaMapU
namespace Go.Proofs.Ytcaloeolmoodbaa.itr
open Go.RowKit mem Go.Maps Go.Sort Go.Shelf
set_option linter.unusedVariables false

def IntE : Enc Int := ⟨1, fun x => [.int .i64 x], fun _ => rfl, fun x u hu => by
  simp at hu
  subst hu; rfl⟩
theorem intE_all (l : List Int) : IntE.all l = l.map encZ := by
  induction l with
  | nil => rfl
  | cons x l ih => rw [IntE.all_cons, List.map_cons, ih]; rfl

theorem sortsI (m : Nat) : AnyZI.SortsIn Try.prog Try.sortedI_ren Fence.wide m :=
  ⟨fun blk off cap ss W hH hblk hsz => callsIn_wide.2 (AnyM.slices_Sort_int Try.sortI blk off cap ss W hH hblk hsz),
   fun p cap W => callsIn_wide.2 (AnyM.slices_Sort_int_none Try.sortI p cap W)⟩
theorem keys_ (mb : Option Nat) (W : World) : Calls Try.prog 54 #[.map mb] W fun e w' => e = .returned (.func (.func 73) #[] #[.pointer (some ⟨W.heap.size, 0, none⟩)]) ∧ w' = W.alloc (.cells #[.map mb] 86) :=
  (callsIn_wide (n := 5)).1 (AnyZI.keys_in Try.keysII Fence.wide 5 trivial rfl mb W)

theorem asc_le : ∀ {l : List Int}, l.Pairwise (· < ·) → l.Pairwise (· ≤ ·) := fun h => h.imp (fun h => Int.le_of_lt h)
theorem asc_nodup : ∀ {l : List Int}, l.Pairwise (· < ·) → l.Nodup := fun h => h.imp (fun h => Int.ne_of_lt h)
theorem sorted_is {ss l : List Int} (hp : ss.Perm l) (hl : l.Pairwise (· < ·)) : ss.mergeSort (fun x y => decide (x ≤ y)) = l := by
  have h1 : (ss.mergeSort (fun x y => decide (x ≤ y))).Pairwise (fun x y => decide (x ≤ y) = true) := List.pairwise_mergeSort (fun a b c h1 h2 => by simp at *; omega) (fun a b => by simp; omega) ss
  have h2 : (ss.mergeSort (fun x y => decide (x ≤ y))).Perm l := (List.mergeSort_perm ss _).trans hp
  refine h2.eq_of_pairwise (le := fun x y => decide (x ≤ y) = true) (fun a b _ _ h1 h2 => ?_) h1 (hl.imp (fun h => by simp; omega))
  simp at h1 h2; omega

set_option maxHeartbeats 1000000 in
/-- slices.Sorted at what maps.Keys handed back -/
theorem sorted_ (b nn : Nat) (D : DataW Unit) (R : Value → Option (DataW Unit × List MemPlace)) (l : List Int) (w : World) (hown : w.ownsMap Try.prog 3 R b nn D) (hmax : Maps.size D ≤ 1048576)
    (hasc : l.Pairwise (· < ·)) (hl : ∀ x, x ∈ l ↔ Maps.has D (.int .i64 x) = true) :
    Calls Try.prog 53 #[.func (.func 73) #[] #[.pointer (some ⟨w.heap.size, 0, none⟩)]] (w.alloc (.cells #[.map (some b)] 86)) fun e w' => ∃ v : Value, e = .returned v ∧ Owns IntE 3 w' v l ∧ (∀ g, v.ownBlock = some g → w.heap.size ≤ g) ∧ Turns (fun _ => False) w w' := by
  have hbl := hown.lt
  have hseq : SeqGives Fence.wide 2 Try.prog 73 #[.pointer (some ⟨w.heap.size, 0, none⟩)] encZ (fun ss => ss.Perm (intKeys D)) (Maps.size D) (w.alloc (.cells #[.map (some b)] 86)) :=
    AnyZI.keys_gives (ρ := Try.keysII_ren) { Try.keysII with } Fence.wide _ trivial rfl (by omega) w.heap.size b nn D _ (by simp) (by simp) (by
      obtain ⟨es, clock, hb, Ft, hs, hD⟩ := hown
      exact ⟨es, clock, (Below.heap_alloc _ _ b hbl).trans hb, Ft, hs, hD⟩)
  have hper : l.Perm (intKeys D) := CollectedI.perm (left := fun _ => false) ⟨asc_nodup hasc, fun x => by rw [hl x]; simp⟩ hown (int_keyed Try.underlying3) Try.underlying3 (fun _ => rfl)
  have cS := AnyZI.sorted_in Try.sortedI Fence.wide 5 trivial trivial trivial trivial rfl (by omega) (sortsI _) (enters_of Try.func72 (by kernel_rfl) rfl) 73 #[.pointer (some ⟨w.heap.size, 0, none⟩)] trivial (enters_of Try.func73 (by kernel_rfl) rfl) _ _ (by unfold maxLen; omega) (by omega) _ hseq
  refine ((callsIn_wide (n := 5)).1 cS).mono ?_
  rintro e w' ⟨v, ss, rfl, hS, hrow, hnil, hb⟩
  have hs := sorted_is (hS.trans hper.symm) hasc
  have hlen : ss.length = l.length := (hS.trans hper.symm).length_eq
  rw [hs, hlen] at hrow
  refine ⟨v, rfl, ?_, fun g hg => ?_, ((Turns.refl _ w).alloc _).trans ((Turns.of_below hb).mono (fun i hi h => .inr (by have : (w.alloc (.cells #[.map (some b)] 86)).heap.size = w.heap.size + 1 := (by unfold World.alloc; exact Array.size_push _); omega)))⟩
  · unfold Owns
    rw [intE_all]
    exact ownsRow_base_a hrow (Nat.zero_le _)
  · have := (World.ownsRow.lt hrow g hg).1
    have e2 : (w.alloc (.cells #[.map (some b)] 86)).heap.size = w.heap.size + 1 := by unfold World.alloc; exact Array.size_push _
    omega
end Go.Proofs.Ytcaloeolmoodbaa.itr
