/-
  pli.New; 'awake' of layer 21; PliMay.
-/
import Derived.Test.YtfhbcdjbfjoknaaPliSeq
import Derived.Deep.DeepCutAuto
namespace Go.Proofs.Ytfhbcdjbfjoknaa.pli
open Go.RowKit mem
set_option linter.unusedVariables false

theorem new_bad (a b : Int) (w : World) (h : ¬ Va a b) :
    Calls Try.prog 19 #[.agg (cfg a b)] w fun e w' => e = .returned (.tuple #[.pointer none, .int .i64 5]) ∧ New w w' := by
  have hb : Blk (w.alloc (.cells (cfg a b) CT)) w.heap.size (cfg a b) CT := Blk.new _ _ _
  have c0 : (w.alloc (.cells (cfg a b) CT)).cell? ⟨w.heap.size, 0, none⟩ = some (.int .i64 a) := hb.cell 0
  have c1 : (w.alloc (.cells (cfg a b) CT)).cell? ⟨w.heap.size, 1, none⟩ = some (.int .i64 b) := hb.cell 1
  have HC := Lib.hid (check_bad a b (w.alloc (.cells (cfg a b) CT)) h)
  have HN : Hid (New w (w.alloc (.cells (cfg a b) CT))) := Lib.hid ((Turns.refl _ _).alloc _)
  clear hb h
  go_enter Try.func19, Try.ntmps19
  go_wp2_with fail
  refine HC.out.mono ?_
  rintro e w1 ⟨rfl, n1⟩
  have HN1 : Hid (New w w1) := Lib.hid (HN.out.trans (n1.mono (fun _ _ h => h.elim)))
  clear n1
  go_wp2
  go_ret2
  exact ⟨rfl, HN1.out⟩
/-- an asker that was made here -/
structure Own (w w' : World) (p : Nat) (s : Q) : Prop where
  sq : Sq w' p s
  n : New w w'
  p0 : w.heap.size ≤ p
theorem Own.at_ {w w1 w2 : World} {p : Nat} {s t : Q} (h : Own w w1 p s) (k : At w1 w2 p t) : Own w w2 p t :=
  ⟨k.1, h.n.trans (k.2.mono (fun i _ hi => .inr (by have := h.p0; omega))), h.p0⟩
theorem Own.later {w w1 w2 : World} {p : Nat} {s : Q} (h : Own w w1 p s) (n : New w1 w2) : Own w w2 p s :=
  ⟨h.sq.turns n (fun h => h), h.n.trans (n.mono (fun _ _ h => h.elim)), h.p0⟩
theorem Own.of_new {w0 w w' : World} {p : Nat} {s : Q} (n : New w0 w) (h : Own w w' p s) : Own w0 w' p s :=
  ⟨h.sq, n.trans (h.n.mono (fun _ _ h => h.elim)), Nat.le_trans n.size h.p0⟩
theorem Own.below {w w' : World} {p : Nat} {s : Q} (h : Own w w' p s) : Below w.heap.size w w' := h.n.below (Nat.le_refl _) (fun _ _ h => h.elim)

theorem new_ok (a b : Int) (w : World) (h : Va a b) :
    Calls Try.prog 19 #[.agg (cfg a b)] w fun e w' => ∃ p, e = .returned (.tuple #[.pointer (some ⟨p, 0, none⟩), .int .i64 0]) ∧ Own w w' p (fresh a b) := by
  have hb : Blk (w.alloc (.cells (cfg a b) CT)) w.heap.size (cfg a b) CT := Blk.new _ _ _
  have c0 : (w.alloc (.cells (cfg a b) CT)).cell? ⟨w.heap.size, 0, none⟩ = some (.int .i64 a) := hb.cell 0
  have c1 : (w.alloc (.cells (cfg a b) CT)).cell? ⟨w.heap.size, 1, none⟩ = some (.int .i64 b) := hb.cell 1
  have HB := Lib.hid hb
  have HC := Lib.hid (check_ok a b (w.alloc (.cells (cfg a b) CT)) h)
  have HN : Hid (New w (w.alloc (.cells (cfg a b) CT))) := Lib.hid ((Turns.refl _ _).alloc _)
  clear hb h
  go_enter Try.func19, Try.ntmps19
  go_wp2_with fail
  refine HC.out.mono ?_
  rintro e w1 ⟨rfl, n1⟩
  have HN1 : Hid (New w w1) := Lib.hid (HN.out.trans (n1.mono (fun _ _ h => h.elim)))
  have hb1 := n1.blk HB.out (fun h => h)
  clear c0 c1 n1 HC
  have c0 : w1.cell? ⟨w.heap.size, 0, none⟩ = some (.int .i64 a) := hb1.cell 0
  have c1 : w1.cell? ⟨w.heap.size, 1, none⟩ = some (.int .i64 b) := hb1.cell 1
  have HS : Hid (Sq (w1.alloc (.cells (fresh a b).cells 86)) w1.heap.size (fresh a b)) := Lib.hid (Blk.new _ _ _)
  clear hb1 HB
  go_wp2
  go_ret2
  exact ⟨_, rfl, HS.out, HN1.out.alloc _, HN1.out.size⟩

/-- the state of 'awake' after k ticks, and what was asked -/
def aw : Nat → Q × Int
  | 0 => (wantQ (fresh 2 5) true 0, 0)
  | k + 1 => (tickQ (aw k).1 (k + 1), if tickB (aw k).1 (k + 1) = true then (aw k).2 * 100 + (k + 1) else (aw k).2)
def okB (s : Q) : Bool := decide (1 ≤ s.first) && decide (s.first ≤ s.most) && decide (s.most ≤ 1073741824) && decide (0 ≤ s.wait) && decide (s.wait ≤ 1073741824) && decide (0 ≤ s.sent) && decide (s.sent ≤ 1048576)
theorem okB_ok {s : Q} (h : okB s = true) : s.ok := by
  simp only [okB, Bool.and_eq_true, decide_eq_true_eq] at h
  obtain ⟨⟨⟨⟨⟨⟨h1, h2⟩, h3⟩, h4⟩, h5⟩, h6⟩, h7⟩ := h
  exact ⟨h1, h2, h3, h4, h5, h6, h7⟩
theorem aw_all : (List.range 17).all (fun k => okB (aw k).1 && decide (0 ≤ (aw k).2) && decide ((aw k).2 ≤ 100000000)) = true := by decide +kernel
theorem aw_ok (k : Nat) (hk : k ≤ 16) : (aw k).1.ok ∧ 0 ≤ (aw k).2 ∧ (aw k).2 ≤ 100000000 := by
  have h := List.all_eq_true.1 aw_all k (List.mem_range.2 (by omega))
  simp only [Bool.and_eq_true, decide_eq_true_eq] at h
  exact ⟨okB_ok h.1.1, h.1.2, h.2⟩
theorem aw_end : (aw 16).2 = 2061116 ∧ (aw 16).1.sent = 5 := by decide +kernel

end Go.Proofs.Ytfhbcdjbfjoknaa.pli
