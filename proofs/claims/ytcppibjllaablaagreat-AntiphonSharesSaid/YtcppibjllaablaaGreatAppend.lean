/-
  append of a string onto a slice of bytes that the call owns, and where the new slice lies. No program.
-/
import Derived.Test.YtcppibjllaablaaGreatMem
import Derived.Lib.AppendStr
import Derived.Deep.AppendLies
namespace Go.Proofs.YtcppibjllaablaaGreat.mem
open Go.RowKit Go.Lib
set_option linter.unusedVariables false

section
variable {P : Program} (w : World)

theorem run_append_string_at (base : Nat) (t u ty e : TypeId) (i : TypeInfo) (ht : P.underlying t = some (.slice e)) (hu : P.underlying u = some .string) (hi : P.info? e = some i) (hz : i.zero = some (.int .u8 0))
    (hsize : i.size = 1) (hby : i.bytes = 1) (v : Value) (n : Nat) (xs : List Value) (hown : w.ownsRow base e 1 v n xs) (s : ByteArray)
    (h63 : n + s.size ≤ maxLen) (hbytes : n + s.size ≤ 140737488355328) (hbase : base ≤ w.heap.size) :
    ∃ v' w', (Builtin.append_ #[t, u] ty #[v, .string s]).run P w = .ok v' w' ∧ w'.ownsRow base e 1 v' (n + s.size) (xs ++ strCells s) ∧ w.grownBy w' v.ownBlock ∧ (v'.ownBlock = v.ownBlock ∨ v'.ownBlock = some w.heap.size) := by
  obtain ⟨v', w', hr, h2, h3, h4⟩ := run_append_own_string (P := P) w base t u ty e i ht hu hi hz hsize hby v n xs hown s h63 hbytes hbase
  refine ⟨v', w', hr, h2, h3, ?_⟩
  have hsmall : n + s.size ≤ 9223372036854775807 := by simp only [maxLen] at h63; omega
  have hxl : xs.length = n := by simpa using hown.1
  rcases hown.2 with ⟨rfl, rfl⟩ | ⟨g, cap, cur, rfl, hbg, hg, hnc, hcm, hcs, htake⟩
  · by_cases hm : s.size = 0
    · left; rw [h4.2 ⟨rfl, hm⟩]
    · have hr2 := run_append_nil_string (P := P) w t u ty e i (.int .u8 0) ht hu hi hz s (by omega) (by omega) (by rw [hby]; omega)
      rw [hr] at hr2
      injection hr2 with e1 e2
      right; rw [e1]; rfl
  · by_cases hroom : n + s.size ≤ cap
    · have hcs' : cur.size = cap := by simpa using hcs
      have hr2 := run_append_room_string (P := P) w t u ty e i ht hu hi hsize g n cap cur hg s hroom (by omega)
      rw [hr] at hr2
      injection hr2 with e1 e2
      left; rw [e1]; rfl
    · have holds : ∀ j u, xs[j]? = some u → w.cell? ((⟨g, 0, none⟩ : Addr).add j) = some u := hown.cells (g := g) rfl
      have hr2 := run_append_grow_string (P := P) w t u ty e i (.int .u8 0) ht hu hi hz ⟨g, 0, none⟩ n cap xs (by rw [hsize]; simpa using hxl) holds s (by omega) (by omega) (by rw [hby]; exact growslice_fits (by omega) (by omega))
      rw [hr] at hr2
      injection hr2 with e1 e2
      right; rw [e1]; rfl

theorem wpList_append_string_at {ops : Array Oper} {rest : List Oper} {o : Oper} {a : Act} {Q : Exit → Act → World → Prop} (hgd : o.guard = none) (sl x : Operand) (t u : TypeId)
    (ho : o.op = .call { callee := .builtin .append, args := #[sl, x], argTypes := #[t, u] })
    (base : Nat) (e : TypeId) (i : TypeInfo) (ht : P.underlying t = some (.slice e)) (hu : P.underlying u = some .string) (hi : P.info? e = some i) (hz : i.zero = some (.int .u8 0))
    (hsize : i.size = 1) (hby : i.bytes = 1)
    (v : Value) (n : Nat) (xs : List Value) (hs : a.eval sl = v) (hown : w.ownsRow base e 1 v n xs) (s : ByteArray) (hx : a.eval x = .string s)
    (h63 : n + s.size ≤ maxLen) (hbytes : n + s.size ≤ 140737488355328) (hbase : base ≤ w.heap.size)
    (h : ∀ v' w', w'.ownsRow base e 1 v' (n + s.size) (xs ++ strCells s) → w.grownBy w' v.ownBlock → (v'.ownBlock = v.ownBlock ∨ v'.ownBlock = some w.heap.size) → wpList P ops Q rest (a.put o.dst v') w') : wpList P ops Q (o :: rest) a w := by
  refine wpList_plain hgd fun K hK => ?_
  obtain ⟨v', w', hr, h2, h3, h4⟩ := run_append_string_at (P := P) w base t u o.type e i ht hu hi hz hsize hby v n xs hown s h63 hbytes hbase
  unfold Oper.wp execOp
  simp only [ho, resolve, invoke, builtin, Sem.run_bind, Sem.run_pure, Result.andThen_ok, List.map_toArray, List.map_cons, List.map_nil, hs, hx, hr]
  exact hK _ _ (h v' w' h2 h3 h4)
end

/-- one byte as a cell -/
def b8 (u : UInt8) : Value := .int .u8 (u.toNat : Int)
theorem strCells_b8 (s : ByteArray) : strCells s = s.data.toList.map b8 := rfl

/-- A block of one cell that holds a slice of bytes: the bytes xs; q: the block in which they lie (none: no bytes, nil). T: the block's type; E: the bytes' type. -/
def Bytes (T E : TypeId) (w : World) (p : Nat) (q : Option Nat) (xs : List UInt8) : Prop :=
  ∃ v, v.ownBlock = q ∧ Blk w p #[v] T ∧ w.ownsRow 0 E 1 v xs.length (xs.map b8) ∧ q ≠ some p

/-- what a call leaves that writes to it alone -/
def Wrote (T E : TypeId) (w w' : World) (p : Nat) (q : Option Nat) (xs : List UInt8) : Prop :=
  ∃ q', Bytes T E w' p q' xs ∧ Turns (fun k => k = p ∨ some k = q) w w' ∧ (q' = q ∨ ∃ g, q' = some g ∧ w.heap.size ≤ g)

theorem Bytes.lt {T E : TypeId} {w : World} {p : Nat} {q : Option Nat} {xs : List UInt8} (h : Bytes T E w p q xs) : p < w.heap.size := by obtain ⟨v, _, hb, _⟩ := h; exact hb.lt
theorem Bytes.qlt {T E : TypeId} {w : World} {p : Nat} {q : Option Nat} {xs : List UInt8} (h : Bytes T E w p q xs) : ∀ g, q = some g → g < w.heap.size := by
  obtain ⟨v, hq, _, ho, _⟩ := h
  intro g hg
  exact (ho.lt g (hq.trans hg)).2
theorem Bytes.turns {T E : TypeId} {S : Nat → Prop} {w w' : World} {p : Nat} {q : Option Nat} {xs : List UInt8} (h : Bytes T E w p q xs) (ht : Turns S w w') (hp : ¬ S p) (hq : ∀ g, q = some g → ¬ S g) : Bytes T E w' p q xs := by
  have hql := h.qlt
  obtain ⟨v, hv, hb, ho, hne⟩ := h
  refine ⟨v, hv, ht.blk hb hp, ?_, hne⟩
  refine ⟨ho.1, ?_⟩
  rcases ho.2 with h0 | ⟨g, cap, cur, rfl, hb0, hg, r⟩
  · exact .inl h0
  · have hqg : q = some g := hv.symm
    exact .inr ⟨g, cap, cur, rfl, hb0, by rw [ht.block g (hql g hqg) (hq g hqg)]; exact hg, r⟩

theorem Wrote.refl {T E : TypeId} {w : World} {p : Nat} {q : Option Nat} {xs : List UInt8} (h : Bytes T E w p q xs) : Wrote T E w w p q xs := ⟨q, h, Turns.refl _ _, .inl rfl⟩

/-- one step more -/
theorem Wrote.step {T E : TypeId} {w w1 w2 : World} {p : Nat} {q q1 : Option Nat} {ys : List UInt8} (ht : Turns (fun k => k = p ∨ some k = q) w w1) (hq : q1 = q ∨ ∃ g, q1 = some g ∧ w.heap.size ≤ g)
    (k : Wrote T E w1 w2 p q1 ys) : Wrote T E w w2 p q ys := by
  obtain ⟨q2, hb, ht2, hq2⟩ := k
  refine ⟨q2, hb, ht.trans (ht2.mono ?_), ?_⟩
  · intro n _ hn
    rcases hn with rfl | hn
    · exact .inl (.inl rfl)
    · rcases hq with rfl | ⟨g, rfl, hg⟩
      · exact .inl (.inr hn)
      · injection hn with hn; subst hn; exact .inr hg
  · rcases hq2 with rfl | ⟨g, rfl, hg⟩
    · exact hq
    · exact .inr ⟨g, rfl, Nat.le_trans ht.size hg⟩

/-- what stands behind 'w.bytes = append(w.bytes, ..)': W: the world in which the append ran (w and new blocks), w1: behind it -/
theorem wrote_append {T E : TypeId} {w W w1 : World} {p : Nat} {q : Option Nat} {xs zs : List UInt8} {v v' : Value} (hq : v.ownBlock = q) (hb : Blk w p #[v] T) (ho : w.ownsRow 0 E 1 v xs.length (xs.map b8)) (hne : q ≠ some p)
    (hW : Turns (fun _ => False) w W) (ho' : w1.ownsRow 0 E 1 v' (xs ++ zs).length ((xs ++ zs).map b8)) (hg : W.grownBy w1 v.ownBlock) (hat : v'.ownBlock = v.ownBlock ∨ ∃ g, v'.ownBlock = some g ∧ w.heap.size ≤ g) :
    Wrote T E w (w1.setCell ⟨p, 0, none⟩ v') p q (xs ++ zs) := by
  have hp := hb.lt
  have hbW : Blk W p #[v] T := hW.blk hb (fun h => h)
  have hb1 : Blk w1 p #[v] T := by
    unfold Blk
    rw [hg.block p hbW.lt (by rw [hq]; exact fun h => hne h.symm)]
    exact hbW
  have hv'p : v'.ownBlock ≠ some p := by
    rcases hat with h | ⟨g, h, hge⟩
    · rw [h, hq]; exact hne
    · rw [h]; intro e; injection e with e; omega
  refine ⟨v'.ownBlock, ⟨v', rfl, hb1.set 0 v', ownsRow_setCell_other ho' hv'p v', hv'p⟩, ?_, ?_⟩
  · refine Turns.setCell ?_ (.inl (.inl rfl)) _
    refine Turns.trans (hW.mono (fun _ _ h => h.elim)) ((Turns.of_grown hg).mono ?_)
    intro k _ hk
    exact .inl (.inr (hk.trans hq))
  · rcases hat with h | h
    · exact .inl (h.trans hq)
    · exact .inr h
end Go.Proofs.YtcppibjllaablaaGreat.mem
