/-
  egress.Out: the rising numbers of the flows.
-/
import Derived.Test.YtcaloeolmoodbaaEgrPut
import Derived.Test.YtcaloeolmoodbaaIter
namespace Go.Proofs.Ytcaloeolmoodbaa.egr
open Go.RowKit mem Go.Maps Go.Sort Go.Shelf
open Go.Proofs.Ytcaloeolmoodbaa.itr
set_option linter.unusedVariables false

theorem keysF (mb : Option Nat) (W : World) : Calls Try.prog 87 #[.map mb] W fun e w' => e = .returned (.func (.func 99) #[] #[.pointer (some ⟨W.heap.size, 0, none⟩)]) ∧ w' = W.alloc (.cells #[.map mb] MT) :=
  (callsIn_wide (n := 5)).1 (AnyZI.keys_in Try.keysIF Fence.wide 5 trivial rfl mb W)
set_option maxHeartbeats 1000000 in
theorem sortedF (b nn : Nat) (D : DataW Unit) (R : Value → Option (DataW Unit × List MemPlace)) (l : List Int) (w : World) (hown : w.ownsMap Try.prog 3 R b nn D) (hmax : Maps.size D ≤ 1048576)
    (hasc : l.Pairwise (· < ·)) (hl : ∀ x, x ∈ l ↔ Maps.has D (.int .i64 x) = true) :
    Calls Try.prog 53 #[.func (.func 99) #[] #[.pointer (some ⟨w.heap.size, 0, none⟩)]] (w.alloc (.cells #[.map (some b)] MT)) fun e w' => ∃ v : Value, e = .returned v ∧ Owns IntE 3 w' v l ∧ (∀ g, v.ownBlock = some g → w.heap.size ≤ g) ∧ Turns (fun _ => False) w w' := by
  have hbl := hown.lt
  have hseq : SeqGives Fence.wide 2 Try.prog 99 #[.pointer (some ⟨w.heap.size, 0, none⟩)] encZ (fun ss => ss.Perm (intKeys D)) (Maps.size D) (w.alloc (.cells #[.map (some b)] MT)) :=
    AnyZI.keys_gives (ρ := Try.keysIF_ren) { Try.keysIF with } Fence.wide _ trivial rfl (by omega) w.heap.size b nn D _ (by simp) (by simp) (by
      obtain ⟨es, clock, hb, Ft, hs, hD⟩ := hown
      exact ⟨es, clock, (Below.heap_alloc _ _ b hbl).trans hb, Ft, hs, hD⟩)
  have hper : l.Perm (intKeys D) := CollectedI.perm (left := fun _ => false) ⟨asc_nodup hasc, fun x => by rw [hl x]; simp⟩ hown (int_keyed Try.underlying3) Try.underlying3 (fun _ => rfl)
  have cS := AnyZI.sorted_in Try.sortedI Fence.wide 5 trivial trivial trivial trivial rfl (by omega) (sortsI _) (enters_of Try.func72 (by kernel_rfl) rfl) 99 #[.pointer (some ⟨w.heap.size, 0, none⟩)] trivial (enters_of Try.func99 (by kernel_rfl) rfl) _ _ (by unfold maxLen; omega) (by omega) _ hseq
  refine ((callsIn_wide (n := 5)).1 cS).mono ?_
  rintro e w' ⟨v, ss, rfl, hS, hrow, hnil, hb⟩
  have hs := sorted_is (hS.trans hper.symm) hasc
  have hlen : ss.length = l.length := (hS.trans hper.symm).length_eq
  rw [hs, hlen] at hrow
  have e2 : (w.alloc (.cells #[.map (some b)] MT)).heap.size = w.heap.size + 1 := by unfold World.alloc; exact Array.size_push _
  refine ⟨v, rfl, ?_, fun g hg => ?_, ((Turns.refl _ w).alloc _).trans ((Turns.of_below hb).mono (fun i hi h => .inr (by omega)))⟩
  · unfold Owns
    rw [intE_all]
    exact ownsRow_base_a hrow (Nat.zero_le _)
  · have := (World.ownsRow.lt hrow g hg).1
    omega
/-- the numbers, rising -/
def idS (L : List Ef) : List Int := (L.map (·.id)).mergeSort (fun x y => decide (x ≤ y))
theorem idS_perm (L : List Ef) : (idS L).Perm (L.map (·.id)) := List.mergeSort_perm _ _
theorem idS_mem (L : List Ef) (x : Int) : x ∈ idS L ↔ ∃ f ∈ L, f.id = x := by
  rw [(idS_perm L).mem_iff, List.mem_map]
theorem idS_asc {L : List Ef} (h : Ap L) : (idS L).Pairwise (· < ·) := by
  have h1 : (idS L).Pairwise (fun x y => decide (x ≤ y) = true) := List.pairwise_mergeSort (fun a b c h1 h2 => by simp at *; omega) (fun a b => by simp; omega) _
  have h2 : (idS L).Nodup := by
    rw [(idS_perm L).nodup_iff]
    exact List.pairwise_map.2 (h.imp (fun h => h.1))
  have h3 := List.pairwise_and_iff.2 ⟨h1, h2⟩
  exact h3.imp (fun ⟨h4, h5⟩ => by simp at h4; omega)
theorem fnd_isSome (L : List Ef) (x : Int) : (fnd L x).isSome = true ↔ ∃ f ∈ L, f.id = x := by
  constructor
  · intro h
    obtain ⟨f, hf⟩ := Option.isSome_iff_exists.1 h
    obtain ⟨h1, h2⟩ := fnd_some hf
    exact ⟨f, h1, h2⟩
  · rintro ⟨f, hf, rfl⟩
    cases hx : fnd L f.id with
    | none => exact absurd rfl (fnd_none hx f hf)
    | some g => rfl
set_option maxRecDepth 100000 in
theorem ids (A : Ad) (k : Nat) (e : Eo) (w : World) (h : Es w A k e) (hk : k ≤ 1048576) :
    Calls Try.prog 65 #[.pointer (some ⟨A.o, 0, none⟩)] w fun x w' => ∃ v, x = .returned v ∧ Gr IntE 3 w w' v (idS e.L) := by
  obtain ⟨c, D, hc, hmp, hrd⟩ := h.map
  have hsz : Maps.size D ≤ 1048576 := Nat.le_trans hmp.size_le (by omega)
  have c5 := h.blk.cell 5
  have HKY := Lib.hid (keysF (some A.mb) w)
  have HSO := Lib.hid (sortedF A.mb c D drr.ptrE (idS e.L) w hmp hsz (idS_asc h.ap) (fun x => by rw [hrd.has x, idS_mem, fnd_isSome]))
  clear h hmp hrd hsz
  go_enter Try.func65, Try.ntmps65
  go_wp2_with fail
  refine HKY.out.mono ?_
  rintro x w1 ⟨rfl, rfl⟩
  go_wp2_with fail
  refine HSO.out.mono ?_
  rintro x w2 ⟨v, rfl, ho, hv, hn⟩
  have HO : Hid (Gr IntE 3 w w2 v (idS e.L)) := Lib.hid ⟨ho, hv, hn⟩
  clear ho hv hn
  go_wp2
  go_ret
  exact ⟨v, rfl, HO.out⟩
end Go.Proofs.Ytcaloeolmoodbaa.egr
