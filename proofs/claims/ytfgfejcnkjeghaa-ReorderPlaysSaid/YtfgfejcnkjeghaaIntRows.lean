/-
  Slices of ints that a call made, or was handed: append(append([]int{}, x...), y). No program but the types.
-/
import Derived.Test.YtfgfejcnkjeghaaRows
import Derived.Test.YtfgfejcnkjeghaaRowsG5
namespace Go.Proofs.Ytfgfejcnkjeghaa.ints
open Go.RowKit mem
set_option linter.unusedVariables false

def IE : Enc Int := ⟨1, fun x => [.int .i64 x], fun _ => rfl, fun x u hu => by
  simp at hu
  subst hu; rfl⟩
abbrev IT : TypeId := 3
abbrev ST : TypeId := 47
theorem infoI : (Try.prog.info? IT).map (fun i => (i.zero, i.size, i.bytes)) = some (some (.int .i64 0), 1, 8) := by kernel_rfl
theorem all_get (l : List Int) (k : Nat) : (IE.all l)[k]? = l[k]?.map (fun x => Value.int .i64 x) := by
  have : IE.all l = l.map (fun x => Value.int .i64 x) := by
    induction l with
    | nil => rfl
    | cons x l ih => rw [IE.all_cons, List.map_cons, ih]; rfl
  rw [this, List.getElem?_map]
theorem Owns.made0 {W : World} {B : Nat} (h : Blk W B #[] IT) : Owns IE IT W (.slice (some ⟨B, 0, none⟩) 0 0) [] :=
  ⟨by simp [Enc.all], .inr ⟨B, 0, #[], rfl, Nat.zero_le _, h, Nat.le_refl _, Nat.zero_le _, by simp, by simp [Enc.all]⟩⟩
theorem Sub.one {W : World} {B : Nat} {x : Int} (h : Blk W B #[.int .i64 x] IT) : Sub IE 0 W (.slice (some ⟨B, 0, none⟩) 1 1) [x] := by
  refine .inr ⟨B, 0, 1, rfl, Nat.le_refl _, by decide, Nat.zero_le _, h.lt, fun j u hu => ?_⟩
  rw [IE.all_one] at hu
  rw [Nat.zero_add, h.cell j]
  exact (by simp : (#[Value.int .i64 x])[j]? = [Value.int .i64 x][j]?).trans hu
/-- what is read at a place -/
theorem Sub.at_ {w : World} {v : Value} {l : List Int} (h : Sub IE 0 w v l) (hl : l ≠ []) : ∃ g o c, v = .slice (some ⟨g, o, none⟩) l.length c ∧ l.length ≤ c ∧ c ≤ maxLen ∧ g < w.heap.size ∧ ∀ k, (hk : k < l.length) → w.cell? ⟨g, o + k, none⟩ = some (.int .i64 l[k]) := by
  rcases h with ⟨_, h0⟩ | ⟨g, o, c, hv, h1, h2, h3, h4, h5⟩
  · exact absurd h0 hl
  · refine ⟨g, o, c, hv, h1, h2, h4, fun k hk => h5 k _ ?_⟩
    rw [all_get, List.getElem?_eq_getElem hk]
    rfl
/-- append onto a block that was just made -/
theorem madeC {w2 W w8 : World} {B : Nat} {v8 : Value} {L : List Int} (N : Turns (fun _ => False) w2 W) (hB : w2.heap.size ≤ B) (hown : Owns IE IT w8 v8 L) (hgrow : W.grownBy w8 (Value.slice (some ⟨B, 0, none⟩) 0 0).ownBlock)
    (hat : v8.ownBlock = (Value.slice (some ⟨B, 0, none⟩) 0 0).ownBlock ∨ v8.ownBlock = some W.heap.size) : Gr IE IT w2 w8 v8 L := by
  have ht := Turns.of_grown hgrow
  have ht' : Turns (fun k => k = B) W w8 := ht.mono (fun k _ hk => by simp [Value.ownBlock] at hk; omega)
  refine ⟨hown, ?_, N.trans (ht'.mono (fun k _ hk => .inr (by rw [hk]; exact hB)))⟩
  intro g hg
  rcases hat with e | e
  · rw [hg] at e; simp [Value.ownBlock] at e; omega
  · rw [hg] at e; injection e with e; have := N.size; omega
end Go.Proofs.Ytfgfejcnkjeghaa.ints
