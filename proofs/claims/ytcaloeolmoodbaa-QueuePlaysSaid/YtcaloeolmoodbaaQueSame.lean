/-
  'same' and 'Begin' of layer 18's laws.
-/
import Derived.Test.YtcaloeolmoodbaaQueRdef
import Derived.Test.YtcaloeolmoodbaaMask
namespace Go.Proofs.Ytcaloeolmoodbaa.que
open Go.RowKit mem
set_option linter.unusedVariables false

set_option maxRecDepth 100000 in
set_option maxHeartbeats 1000000 in
theorem same (v1 v2 : Value) (l : List It) (w : World) (h1 : Sub IE 0 w v1 l) (h2 : Sub IE 0 w v2 l) (hl : l.length ≤ 1000000) :
    Calls Try.prog 46 #[v1, v2] w fun e w' => e = .returned (.bool true) ∧ New w w' := by
  obtain ⟨a1, c1, hv1, hc1, _⟩ := h1.form
  obtain ⟨a2, c2, hv2, hc2, _⟩ := h2.form
  have HF1 := Lib.hid h1
  have HF2 := Lib.hid h2
  subst hv1 hv2
  clear h1 h2
  have hlm : l.length ≤ maxLen := by unfold maxLen; omega
  go_enter Try.func46, Try.ntmps46
  go_wp2_with fail
  go_loopw [13] (fun i wr => ∃ k : Nat, k ≤ l.length ∧ i = .int .i64 k ∧ New w wr) (fun i _ => l.length - (intOf i).toNat)
  case atStart => exact ⟨0, Nat.zero_le _, rfl, Turns.refl _ _⟩
  case round =>
    obtain ⟨k, hk, rfl, hnw⟩ := hrel
    by_cases hlt : k < l.length
    · obtain ⟨x, hx⟩ : ∃ x, l[k]? = some x := ⟨_, List.getElem?_eq_getElem hlt⟩
      obtain ⟨g1, o1, c1', hv1, hg1, d0, d1, d2, d3⟩ := Sub.at' (Sub.new HF1.out hnw) hx
      obtain ⟨g2, o2, c2', hv2, hg2, e0, e1, e2, e3⟩ := Sub.at' (Sub.new HF2.out hnw) hx
      injection hv1 with hv1 _ hw1
      injection hv2 with hv2 _ hw2
      subst hv1 hv2 hw1 hw2
      have b1 : (k : Int) < (l.length : Int) := by omega
      have b2 : (0 : Int) ≤ (k : Int) := by omega
      clear hx
      obtain ⟨xn, xs, xt, xk⟩ := x
      dsimp only at *
      have HN := Lib.hid hnw
      clear hnw
      go_wp2_with fail
      go_region
      all_goals
        go_wp2_with fail
        go_roundw
        case rel => exact ⟨k + 1, by omega, by go_num, HN.out.drew⟩
        case measure => simp [intOf]; omega
    · obtain rfl : k = l.length := by omega
      go_wp2
      go_ret
      exact ⟨rfl, hnw⟩

abbrev TS : TypeId := 28
/-- a state's cells: the queue, the reference's, the clock, the number, the age -/
abbrev stL (p : Nat) (q : Q) (v : Value) (now n age : Int) : List Value := [.pointer (some ⟨p, 0, none⟩), .int .i64 q.frames, .int .i64 q.most, v, .bool q.broken, .int .i64 now, .int .i64 n, .int .i64 age]
theorem eight {w : World} {p : Nat} {a b c d e f g h : Value} {T : TypeId} (hb : Blk w p #[a, b, c, d, e, f, g, h] T) :
    (w.cell? ⟨p, 0, none⟩ = some a ∧ w.cell? ⟨p, 1, none⟩ = some b ∧ w.cell? ⟨p, 2, none⟩ = some c ∧ w.cell? ⟨p, 3, none⟩ = some d ∧ w.cell? ⟨p, 4, none⟩ = some e ∧ w.cell? ⟨p, 5, none⟩ = some f ∧ w.cell? ⟨p, 6, none⟩ = some g ∧ w.cell? ⟨p, 7, none⟩ = some h)
    ∧ w.frozen? ⟨p, 0, none⟩ = false ∧ w.frozen? ⟨p, 1, none⟩ = false ∧ w.frozen? ⟨p, 2, none⟩ = false ∧ w.frozen? ⟨p, 3, none⟩ = false ∧ w.frozen? ⟨p, 4, none⟩ = false ∧ w.frozen? ⟨p, 5, none⟩ = false ∧ w.frozen? ⟨p, 6, none⟩ = false ∧ w.frozen? ⟨p, 7, none⟩ = false :=
  ⟨⟨hb.cell 0, hb.cell 1, hb.cell 2, hb.cell 3, hb.cell 4, hb.cell 5, hb.cell 6, hb.cell 7⟩, hb.free 0, hb.free 1, hb.free 2, hb.free 3, hb.free 4, hb.free 5, hb.free 6, hb.free 7⟩

set_option maxRecDepth 100000 in
set_option maxHeartbeats 1000000 in
theorem beginC (f m a : Int) (w : World) :
    Calls Try.prog 14 #[.int .i64 f, .int .i64 m, .int .i64 a] w fun e w' => ∃ p, e = .returned (.tuple #[.agg (stL p (fresh (1 + f % 8) (1 + m % 64)) (.slice none 0 0) 0 0 (1 + a % 32)).toArray, .bool true]) ∧ Own w w' p (.slice none 0 0) (fresh (1 + f % 8) (1 + m % 64)) := by
  have M3 := mask.mask3 f
  have M6 := mask.mask6 m
  have M5 := mask.mask5 a
  obtain ⟨F, hF⟩ : ∃ F, F = 1 + f % 8 := ⟨_, rfl⟩
  obtain ⟨M, hM⟩ : ∃ M, M = 1 + m % 64 := ⟨_, rfl⟩
  obtain ⟨A, hA⟩ : ∃ A, A = 1 + a % 32 := ⟨_, rfl⟩
  have hf : 1 ≤ F ∧ F ≤ 8 := by omega
  have hm : 1 ≤ M ∧ M ≤ 64 := by omega
  have ha : 1 ≤ A ∧ A ≤ 32 := by omega
  have e1 : 1 + f % 8 = F := hF.symm
  have e2 : 1 + m % 64 = M := hM.symm
  have e3 : 1 + a % 32 = A := hA.symm
  simp only [fresh, e1, e2, e3]
  have HNW := Lib.hid (fun w => new F M w hf.1 (by omega) hm.1 (by omega))
  obtain ⟨hf0, hf1⟩ := hf
  obtain ⟨hm0, hm1⟩ := hm
  obtain ⟨ha0, ha1⟩ := ha
  clear hF hM hA
  have s1 : IntKind.i64.wrap F = F := IntWalk.i64_in _ (by omega)
  have s2 : IntKind.i64.wrap M = M := IntWalk.i64_in _ (by omega)
  have s3 : IntKind.i64.wrap A = A := IntWalk.i64_in _ (by omega)
  generalize f % 8 = F0 at *
  generalize m % 64 = M0 at *
  generalize a % 32 = A0 at *
  go_enter Try.func14, Try.ntmps14
  go_wp2_with fail
  have hbr := Blk.new w [.pointer none, .int .i64 0, .int .i64 0, .slice none 0 0, .bool false, .int .i64 0, .int .i64 0, .int .i64 0].toArray TS
  have hn0' : New w (w.alloc (.cells #[.pointer none, .int .i64 0, .int .i64 0, .slice none 0 0, .bool false, .int .i64 0, .int .i64 0, .int .i64 0] TS)) := (Turns.refl _ _).alloc _
  refine (show Calls _ _ _ (w.alloc (.cells #[.pointer none, .int .i64 0, .int .i64 0, .slice none 0 0, .bool false, .int .i64 0, .int .i64 0, .int .i64 0] TS)) _ from ?_)
  generalize w.alloc (.cells #[.pointer none, .int .i64 0, .int .i64 0, .slice none 0 0, .bool false, .int .i64 0, .int .i64 0, .int .i64 0] TS) = w1 at *
  obtain ⟨pr, hpr⟩ : ∃ pr, pr = w.heap.size := ⟨_, rfl⟩
  have hlr : w.heap.size ≤ pr := by omega
  rw [← hpr] at hbr ⊢
  clear hpr
  refine (HNW.out w1).mono ?_
  rintro e w2 ⟨rfl, hq, hn2⟩
  have hb2 := hn2.blk hbr (fun h => h)
  have hne : w1.heap.size ≠ pr := by have := hbr.lt; omega
  have hle : w.heap.size ≤ w1.heap.size := hn0'.size
  generalize w1.heap.size = p at *
  have ht := puts_turns (S := (· = pr)) (p := pr) (.inl rfl) (stL p (fresh F M) (.slice none 0 0) 0 0 A) 0 w2 (Turns.refl _ _)
  have hP := Lib.hid (puts_blk _ (stL p (fresh F M) (.slice none 0 0) 0 0 A) hb2 rfl)
  have hA : Own w (puts w2 pr 0 (stL p (fresh F M) (.slice none 0 0) 0 0 A)) p (.slice none 0 0) (fresh F M) :=
    ⟨hq.turns ht hne (fun g hg => by simp [Value.ownBlock] at hg), (hn0'.trans (hn2.mono (fun _ _ h => h.elim))).trans (ht.mono (fun k _ hk => .inr (by rw [hk]; exact hlr))), hle, fun g hg => by simp [Value.ownBlock] at hg⟩
  have HA := Lib.hid hA
  obtain ⟨⟨g0, g1, g2, g3, g4, g5, g6, g7⟩, f0, f1, f2, f3, f4, f5, f6, f7⟩ := eight hb2
  clear hbr hb2 ht hA hn0' hn2 hq HNW
  go_wp2_with fail
  refine (show bodyPost _ _ _ _ _ (puts w2 pr 0 (stL p (fresh F M) (.slice none 0 0) 0 0 A)) from ?_)
  generalize puts w2 pr 0 (stL p (fresh F M) (.slice none 0 0) 0 0 A) = w9 at *
  clear f0 f1 f2 f3 f4 f5 f6 f7 g0 g1 g2 g3 g4 g5 g6 g7
  obtain ⟨⟨g0, g1, g2, g3, g4, g5, g6, g7⟩, _⟩ := eight hP.out
  simp only [fresh] at g1 g2 g4
  refine bodyPost_ret (v := .tuple #[.agg (stL p (fresh F M) (.slice none 0 0) 0 0 A).toArray, .bool true]) (by simp [results, Try.results14, go_sem, fresh, g0, g1, g2, g3, g4, g5, g6, g7]) rfl ?_
  exact ⟨p, rfl, HA.out⟩
end Go.Proofs.Ytcaloeolmoodbaa.que
