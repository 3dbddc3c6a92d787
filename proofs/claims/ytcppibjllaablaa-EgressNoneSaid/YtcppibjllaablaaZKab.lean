/-
  Parts of the proof, one behind the other.
-/
import Derived.Test.YtcppibjllaablaaShelfI
import Derived.Test.YtcppibjllaablaaZKaa
import Derived.Test.YtcppibjllaablaaZQuePut
set_option linter.unusedVariables false
set_option linter.unusedSimpArgs false
/-
  'slices.Sorted(maps.Keys(m))' at whole numbers: the rising keys, as a row of its own. slices.BinarySearch.
-/
namespace Go.Proofs.Ytcppibjllaablaa.itr
open Go.RowKit mem Go.Maps Go.Sort Go.Shelf
set_option linter.unusedVariables false

def IntE : Enc Int := ⟨1, fun x => [.int .i64 x], fun _ => rfl, fun x u hu => by
  simp at hu
  subst hu; rfl⟩
theorem intE_all (l : List Int) : IntE.all l = l.map encZ := by
  induction l with
  | nil => rfl
  | cons x l ih => rw [IntE.all_cons, List.map_cons, ih]; rfl

theorem sortsI (m : Nat) : AnyZI.SortsIn Try.prog Try.sortedI_ren Fence.wide m :=
  ⟨fun blk off cap ss W hH hblk hsz => callsIn_wide.2 (AnyM.slices_Sort_int Try.sortI blk off cap ss W hH hblk hsz),
   fun p cap W => callsIn_wide.2 (AnyM.slices_Sort_int_none Try.sortI p cap W)⟩
theorem keys_ (mb : Option Nat) (W : World) : Calls Try.prog 48 #[.map mb] W fun e w' => e = .returned (.func (.func 67) #[] #[.pointer (some ⟨W.heap.size, 0, none⟩)]) ∧ w' = W.alloc (.cells #[.map mb] 80) :=
  (callsIn_wide (n := 5)).1 (AnyZI.keys_in Try.keysII Fence.wide 5 trivial rfl mb W)

theorem asc_le : ∀ {l : List Int}, l.Pairwise (· < ·) → l.Pairwise (· ≤ ·) := fun h => h.imp (fun h => Int.le_of_lt h)
theorem asc_nodup : ∀ {l : List Int}, l.Pairwise (· < ·) → l.Nodup := fun h => h.imp (fun h => Int.ne_of_lt h)
theorem sorted_is {ss l : List Int} (hp : ss.Perm l) (hl : l.Pairwise (· < ·)) : ss.mergeSort (fun x y => decide (x ≤ y)) = l := by
  have h1 : (ss.mergeSort (fun x y => decide (x ≤ y))).Pairwise (fun x y => decide (x ≤ y) = true) := List.pairwise_mergeSort (fun a b c h1 h2 => by simp at *; omega) (fun a b => by simp; omega) ss
  have h2 : (ss.mergeSort (fun x y => decide (x ≤ y))).Perm l := (List.mergeSort_perm ss _).trans hp
  refine h2.eq_of_pairwise (le := fun x y => decide (x ≤ y) = true) (fun a b _ _ h1 h2 => ?_) h1 (hl.imp (fun h => by simp; omega))
  simp at h1 h2; omega

set_option maxHeartbeats 1000000 in
/-- slices.Sorted at what maps.Keys handed back -/
theorem sorted_ (b nn : Nat) (D : DataW Unit) (R : Value → Option (DataW Unit × List MemPlace)) (l : List Int) (w : World) (hown : w.ownsMap Try.prog 3 R b nn D) (hmax : Maps.size D ≤ 1048576)
    (hasc : l.Pairwise (· < ·)) (hl : ∀ x, x ∈ l ↔ Maps.has D (.int .i64 x) = true) :
    Calls Try.prog 47 #[.func (.func 67) #[] #[.pointer (some ⟨w.heap.size, 0, none⟩)]] (w.alloc (.cells #[.map (some b)] 80)) fun e w' => ∃ v : Value, e = .returned v ∧ Owns IntE 3 w' v l ∧ (∀ g, v.ownBlock = some g → w.heap.size ≤ g) ∧ Turns (fun _ => False) w w' := by
  have hbl := hown.lt
  have hseq : SeqGives Fence.wide 2 Try.prog 67 #[.pointer (some ⟨w.heap.size, 0, none⟩)] encZ (fun ss => ss.Perm (intKeys D)) (Maps.size D) (w.alloc (.cells #[.map (some b)] 80)) :=
    AnyZI.keys_gives (ρ := Try.keysII_ren) { Try.keysII with } Fence.wide _ trivial rfl (by omega) w.heap.size b nn D _ (by simp) (by simp) (by
      obtain ⟨es, clock, hb, Ft, hs, hD⟩ := hown
      exact ⟨es, clock, (Below.heap_alloc _ _ b hbl).trans hb, Ft, hs, hD⟩)
  have hper : l.Perm (intKeys D) := CollectedI.perm (left := fun _ => false) ⟨asc_nodup hasc, fun x => by rw [hl x]; simp⟩ hown (int_keyed Try.underlying3) Try.underlying3 (fun _ => rfl)
  have cS := AnyZI.sorted_in Try.sortedI Fence.wide 5 trivial trivial trivial trivial rfl (by omega) (sortsI _) (enters_of Try.func66 (by kernel_rfl) rfl) 67 #[.pointer (some ⟨w.heap.size, 0, none⟩)] trivial (enters_of Try.func67 (by kernel_rfl) rfl) _ _ (by unfold maxLen; omega) (by omega) _ hseq
  refine ((callsIn_wide (n := 5)).1 cS).mono ?_
  rintro e w' ⟨v, ss, rfl, hS, hrow, hnil, hb⟩
  have hs := sorted_is (hS.trans hper.symm) hasc
  have hlen : ss.length = l.length := (hS.trans hper.symm).length_eq
  rw [hs, hlen] at hrow
  refine ⟨v, rfl, ?_, fun g hg => ?_, ((Turns.refl _ w).alloc _).trans ((Turns.of_below hb).mono (fun i hi h => .inr (by have : (w.alloc (.cells #[.map (some b)] 80)).heap.size = w.heap.size + 1 := (by unfold World.alloc; exact Array.size_push _); omega)))⟩
  · unfold Owns
    rw [intE_all]
    exact ownsRow_base_a hrow (Nat.zero_le _)
  · have := (World.ownsRow.lt hrow g hg).1
    have e2 : (w.alloc (.cells #[.map (some b)] 80)).heap.size = w.heap.size + 1 := by unfold World.alloc; exact Array.size_push _
    omega
end Go.Proofs.Ytcppibjllaablaa.itr

/-
  'awake' of layer 18; QueueMay.
-/
namespace Go.Proofs.Ytcppibjllaablaa.que
open Go.RowKit mem
set_option linter.unusedVariables false

theorem put_is (p : Nat) (pv : Value) (q : Q) (x : It) (t : Q) (D : List It) (b : Bool) (ht : putQ q x = t ∧ putD q x = D ∧ putOk q x = b) (w : World) (h : Qs w p pv q) (s0 : -9223372036854775808 ≤ x.size) (s1 : x.size ≤ 9223372036854775807) :
    Calls Try.prog 38 #[.pointer (some ⟨p, 0, none⟩), x.v] w fun e w' => ∃ v, e = .returned (.tuple #[v, .bool b]) ∧ PutPost w w' p pv t v D := by
  obtain ⟨rfl, rfl, rfl⟩ := ht
  exact put p pv q x w h s0 s1

/-- a queue that the call made, and what it left alone -/
structure Own (w w' : World) (p : Nat) (pv : Value) (q : Q) : Prop where
  qs : Qs w' p pv q
  n : New w w'
  p0 : w.heap.size ≤ p
  v0 : ∀ g, pv.ownBlock = some g → w.heap.size ≤ g
theorem Own.made {w w' : World} {q : Q} (h : Qs w' w.heap.size (.slice none 0 0) q) (n : New w w') : Own w w' w.heap.size (.slice none 0 0) q :=
  ⟨h, n, Nat.le_refl _, fun g hg => by simp [Value.ownBlock] at hg⟩
theorem Own.foot {w w' : World} {p : Nat} {pv : Value} {q : Q} (h : Own w w' p pv q) {i : Nat} (hi : Foot p pv i) : w.heap.size ≤ i := by
  rcases hi with rfl | hi
  · exact h.p0
  · exact h.v0 i hi
theorem Own.lft {w w1 w2 : World} {p : Nat} {pv : Value} {q q' : Q} (h : Own w w1 p pv q) (h2 : Lft w1 w2 p pv q') : ∃ pv', Own w w2 p pv' q' := by
  obtain ⟨⟨pv', hq, hl⟩, ht⟩ := h2
  refine ⟨pv', hq, h.n.trans (ht.mono (fun i _ hi => .inr (h.foot hi))), h.p0, fun g hg => ?_⟩
  rcases hl with hl | ⟨g', hl, hg'⟩
  · exact h.v0 g (hl ▸ hg)
  · rw [hl] at hg
    injection hg with hg
    have := h.n.size
    omega
theorem Gone.lft {w w1 : World} {p : Nat} {pv v : Value} {q : Q} {D : List It} (h : Gone w w1 p pv q v D) : Lft w w1 p pv q := by
  obtain ⟨pv', hq, he⟩ := h.qs
  exact ⟨⟨pv', hq, .inl he⟩, h.turns⟩
theorem Own.drewN {w w1 : World} {p : Nat} {pv : Value} {q : Q} (h : Own w w1 p pv q) (n : Nat) : Own w (w1.drewN n) p pv q := ⟨h.qs.drewN n, h.n.drewN n, h.p0, h.v0⟩
theorem Own.later {w w1 w2 : World} {p : Nat} {pv : Value} {q : Q} (h : Own w w1 p pv q) (n : New w1 w2) : Own w w2 p pv q := ⟨h.qs.later n, h.n.trans (n.mono (fun _ _ h => h.elim)), h.p0, h.v0⟩
theorem Fresh.later {T : TypeId} {w w1 w2 : World} {v : Value} {l : List It} (h : Fresh T w w1 v l) (n : New w1 w2) : Fresh T w w2 v l := ⟨h.own.turns n (fun _ _ h => h), h.vb⟩

abbrev a1 : It := ⟨1, 0, 0, true⟩
abbrev a2 : It := ⟨2, 0, 0, false⟩
abbrev a3 : It := ⟨3, 0, 0, false⟩

theorem awake (w : World) :
    Calls Try.prog 11 #[] w fun e w' => e = .returned (.bool true) ∧ New w w' := by
  have HN := Lib.hid (new 2 100 w (by decide) (by decide) (by decide) (by decide))
  have hne : (Value.pointer (some ⟨w.heap.size, 0, none⟩) = Value.pointer none) = False := by simp
  go_enter Try.func11, Try.ntmps11
  go_wp2_with fail
  refine HN.out.mono ?_
  rintro e w1 ⟨rfl, q1, n1⟩
  have O1 := Lib.hid (Own.made q1 n1)
  clear HN q1 n1
  generalize w.heap.size = p at *
  go_wp2_with fail
  refine (put_is p _ _ a1 ⟨2, 100, [a1], false⟩ [] true ⟨rfl, rfl, rfl⟩ w1 O1.out.qs (by decide) (by decide)).mono ?_
  rintro e w2 ⟨v2, rfl, h2⟩
  obtain ⟨pv2, o2⟩ := O1.out.lft h2.lft
  have O2 := Lib.hid o2
  clear O1 h2 o2
  go_wp2_with fail
  refine (put_is p pv2 _ a2 ⟨2, 100, [a1, a2], false⟩ [] true ⟨rfl, rfl, rfl⟩ w2 O2.out.qs (by decide) (by decide)).mono ?_
  rintro e w3 ⟨v3, rfl, h3⟩
  obtain ⟨pv3, o3⟩ := O2.out.lft h3.lft
  have O3 := Lib.hid o3
  clear O2 h3 o3
  go_wp2_with fail
  refine (put_is p pv3 _ a3 ⟨2, 100, [], true⟩ [a1, a2] false ⟨rfl, rfl, rfl⟩ w3 O3.out.qs (by decide) (by decide)).mono ?_
  rintro e w4 ⟨v4, rfl, h4⟩
  obtain ⟨pv4, o4⟩ := O3.out.lft h4.lft
  obtain ⟨ao, c, hv4, hc4, hrd, _⟩ := h4.fr.own.form
  rcases hrd with h0 | ⟨g, hg, hgl, hcell⟩
  · cases h0
  subst hg
  have r0 : w4.cell? ⟨g, 0, none⟩ = some (.int .i64 1) := hcell 0 a1 rfl 0 _ rfl
  have HL := Lib.hid (len p pv4 _ w4 o4.qs)
  have HB := Lib.hid (broken p pv4 _ w4 o4.qs)
  have HN4 := Lib.hid o4.n
  have hc4' : 2 ≤ c := hc4
  clear O3 h4 o4 hcell hc4
  subst hv4
  go_wp2_with fail
  refine HL.out.mono ?_
  rintro e w5 ⟨rfl, rfl⟩
  go_wp2_with fail
  refine HB.out.mono ?_
  rintro e w6 ⟨rfl, rfl⟩
  go_wp2
  go_ret
  exact ⟨rfl, HN4.out⟩

end Go.Proofs.Ytcppibjllaablaa.que
