/-
  pli.New; 'awake' of layer 21; PliMay.
-/
import Derived.Test.YtjiodpbgjhoakaaPliSeq
import Derived.Deep.DeepCutAuto
namespace Go.Proofs.Ytjiodpbgjhoakaa.pli
open Go.RowKit mem
set_option linter.unusedVariables false

theorem new_bad (a b : Int) (w : World) (h : ¬ Va a b) :
    Calls Try.prog 15 #[.agg (cfg a b)] w fun e w' => e = .returned (.tuple #[.pointer none, .int .i64 5]) ∧ New w w' := by
  have hb : Blk (w.alloc (.cells (cfg a b) CT)) w.heap.size (cfg a b) CT := Blk.new _ _ _
  have c0 : (w.alloc (.cells (cfg a b) CT)).cell? ⟨w.heap.size, 0, none⟩ = some (.int .i64 a) := hb.cell 0
  have c1 : (w.alloc (.cells (cfg a b) CT)).cell? ⟨w.heap.size, 1, none⟩ = some (.int .i64 b) := hb.cell 1
  have HC := Lib.hid (check_bad a b (w.alloc (.cells (cfg a b) CT)) h)
  have HN : Hid (New w (w.alloc (.cells (cfg a b) CT))) := Lib.hid ((Turns.refl _ _).alloc _)
  clear hb h
  go_enter Try.func15, Try.ntmps15
  go_wp2_with fail
  refine HC.out.mono ?_
  rintro e w1 ⟨rfl, n1⟩
  have HN1 : Hid (New w w1) := Lib.hid (HN.out.trans (n1.mono (fun _ _ h => h.elim)))
  clear n1
  go_wp2
  go_ret2
  exact ⟨rfl, HN1.out⟩
/-- an asker that was made here -/
structure Own (w w' : World) (p : Nat) (s : Q) : Prop where
  sq : Sq w' p s
  n : New w w'
  p0 : w.heap.size ≤ p
theorem Own.at_ {w w1 w2 : World} {p : Nat} {s t : Q} (h : Own w w1 p s) (k : At w1 w2 p t) : Own w w2 p t :=
  ⟨k.1, h.n.trans (k.2.mono (fun i _ hi => .inr (by have := h.p0; omega))), h.p0⟩
theorem Own.later {w w1 w2 : World} {p : Nat} {s : Q} (h : Own w w1 p s) (n : New w1 w2) : Own w w2 p s :=
  ⟨h.sq.turns n (fun h => h), h.n.trans (n.mono (fun _ _ h => h.elim)), h.p0⟩
theorem Own.of_new {w0 w w' : World} {p : Nat} {s : Q} (n : New w0 w) (h : Own w w' p s) : Own w0 w' p s :=
  ⟨h.sq, n.trans (h.n.mono (fun _ _ h => h.elim)), Nat.le_trans n.size h.p0⟩
theorem Own.below {w w' : World} {p : Nat} {s : Q} (h : Own w w' p s) : Below w.heap.size w w' := h.n.below (Nat.le_refl _) (fun _ _ h => h.elim)

theorem new_ok (a b : Int) (w : World) (h : Va a b) :
    Calls Try.prog 15 #[.agg (cfg a b)] w fun e w' => ∃ p, e = .returned (.tuple #[.pointer (some ⟨p, 0, none⟩), .int .i64 0]) ∧ Own w w' p (fresh a b) := by
  have hb : Blk (w.alloc (.cells (cfg a b) CT)) w.heap.size (cfg a b) CT := Blk.new _ _ _
  have c0 : (w.alloc (.cells (cfg a b) CT)).cell? ⟨w.heap.size, 0, none⟩ = some (.int .i64 a) := hb.cell 0
  have c1 : (w.alloc (.cells (cfg a b) CT)).cell? ⟨w.heap.size, 1, none⟩ = some (.int .i64 b) := hb.cell 1
  have HB := Lib.hid hb
  have HC := Lib.hid (check_ok a b (w.alloc (.cells (cfg a b) CT)) h)
  have HN : Hid (New w (w.alloc (.cells (cfg a b) CT))) := Lib.hid ((Turns.refl _ _).alloc _)
  clear hb h
  go_enter Try.func15, Try.ntmps15
  go_wp2_with fail
  refine HC.out.mono ?_
  rintro e w1 ⟨rfl, n1⟩
  have HN1 : Hid (New w w1) := Lib.hid (HN.out.trans (n1.mono (fun _ _ h => h.elim)))
  have hb1 := n1.blk HB.out (fun h => h)
  clear c0 c1 n1 HC
  have c0 : w1.cell? ⟨w.heap.size, 0, none⟩ = some (.int .i64 a) := hb1.cell 0
  have c1 : w1.cell? ⟨w.heap.size, 1, none⟩ = some (.int .i64 b) := hb1.cell 1
  have HS : Hid (Sq (w1.alloc (.cells (fresh a b).cells 80)) w1.heap.size (fresh a b)) := Lib.hid (Blk.new _ _ _)
  clear hb1 HB
  go_wp2
  go_ret2
  exact ⟨_, rfl, HS.out, HN1.out.alloc _, HN1.out.size⟩

/-- the state of 'awake' after k ticks, and what was asked -/
def aw : Nat → Q × Int
  | 0 => (wantQ (fresh 2 5) true 0, 0)
  | k + 1 => (tickQ (aw k).1 (k + 1), if tickB (aw k).1 (k + 1) = true then (aw k).2 * 100 + (k + 1) else (aw k).2)
def okB (s : Q) : Bool := decide (1 ≤ s.first) && decide (s.first ≤ s.most) && decide (s.most ≤ 1073741824) && decide (0 ≤ s.wait) && decide (s.wait ≤ 1073741824) && decide (0 ≤ s.sent) && decide (s.sent ≤ 1048576)
theorem okB_ok {s : Q} (h : okB s = true) : s.ok := by
  simp only [okB, Bool.and_eq_true, decide_eq_true_eq] at h
  obtain ⟨⟨⟨⟨⟨⟨h1, h2⟩, h3⟩, h4⟩, h5⟩, h6⟩, h7⟩ := h
  exact ⟨h1, h2, h3, h4, h5, h6, h7⟩
theorem aw_all : (List.range 17).all (fun k => okB (aw k).1 && decide (0 ≤ (aw k).2) && decide ((aw k).2 ≤ 100000000)) = true := by decide +kernel
theorem aw_ok (k : Nat) (hk : k ≤ 16) : (aw k).1.ok ∧ 0 ≤ (aw k).2 ∧ (aw k).2 ≤ 100000000 := by
  have h := List.all_eq_true.1 aw_all k (List.mem_range.2 (by omega))
  simp only [Bool.and_eq_true, decide_eq_true_eq] at h
  exact ⟨okB_ok h.1.1, h.1.2, h.2⟩
theorem aw_end : (aw 16).2 = 2061116 ∧ (aw 16).1.sent = 5 := by decide +kernel

theorem awake (w : World) :
    Calls Try.prog 16 #[] w fun e w' => e = .returned (.bool true) ∧ New w w' := by
  have HN := Lib.hid (new_ok 2 5 w (by decide))
  have HE := Lib.hid aw_end
  go_enter Try.func16, Try.ntmps16
  go_wp2_with fail
  refine HN.out.mono ?_
  rintro e w1 ⟨p, rfl, o1⟩
  have HO1 := Lib.hid o1
  clear HN o1
  go_wp2_with fail
  refine (want p (fresh 2 5) true 0 w1 HO1.out.sq (okB_ok (by decide)) (by decide) (by decide)).mono ?_
  rintro e w2 ⟨rfl, a2⟩
  have HO2 : Hid (Own w w2 p (aw 0).1) := Lib.hid (HO1.out.at_ a2)
  have e0 : wantB (fresh 2 5) true 0 = true := by decide
  rw [e0]
  clear HO1 a2 e0
  go_wp2_with fail
  go_loopw [3, 4] (fun a i wr => ∃ k : Nat, k ≤ 16 ∧ a = .int .i64 (aw k).2 ∧ i = .int .i64 (k + 1 : Nat) ∧ Own w wr p (aw k).1) (fun _ i _ => 17 - (intOf i).toNat)
  case atStart => exact ⟨0, by omega, rfl, rfl, HO2.out⟩
  case round =>
    obtain ⟨k, hk, rfl, rfl, h3⟩ := hrel
    clear HO2
    by_cases hgo : k < 16
    · obtain ⟨hok, h0, h1⟩ := aw_ok k hk
      have HT := Lib.hid (tick p (aw k).1 ((k + 1 : Nat) : Int) wr h3.sq hok (by omega) (by omega))
      have HK : Hid ((aw (k + 1)).1 = tickQ (aw k).1 ((k + 1 : Nat) : Int) ∧ (aw (k + 1)).2 = if tickB (aw k).1 ((k + 1 : Nat) : Int) = true then (aw k).2 * 100 + ((k + 1 : Nat) : Int) else (aw k).2) := Lib.hid ⟨rfl, rfl⟩
      have H3 := Lib.hid h3
      have d1 : decide (((k + 1 : Nat) : Int) ≤ 16) = true := decide_eq_true (by omega)
      clear h3 hok
      generalize hx : (aw k).2 = x at *
      have HX := Lib.hid hx
      clear hx
      go_wp2_with fail
      refine HT.out.mono ?_
      rintro e w3 ⟨rfl, a3⟩
      have H4 : Hid (Own w w3 p (aw (k + 1)).1) := Lib.hid (by rw [HK.out.1]; exact H3.out.at_ a3)
      clear HT H3 a3
      cases hb : tickB (aw k).1 ((k + 1 : Nat) : Int)
      all_goals
        rw [hb] at HK
        have HK2 := Lib.hid HK.out.2
        clear HK hb
        go_wp2
        go_roundw
        case rel => exact ⟨k + 1, by omega, by rw [HK2.out]; simp, by go_num, H4.out⟩
        case measure => simp [intOf]; omega
    · obtain rfl : k = 16 := by omega
      have HT := Lib.hid (sent p _ wr h3.sq)
      rw [HE.out.2] at HT
      rw [HE.out.1]
      have H3 := Lib.hid h3
      clear h3
      go_wp2_with fail
      refine HT.out.mono ?_
      rintro e w3 ⟨rfl, rfl⟩
      go_wp2
      go_ret
      exact ⟨rfl, H3.out.n⟩
end Go.Proofs.Ytjiodpbgjhoakaa.pli
