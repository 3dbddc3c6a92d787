/-
  'same' and 'Begin' of layer 9's laws.
-/
import Derived.Test.YtfgfejcnkjeghaaReoRtick
import Derived.Test.YtfgfejcnkjeghaaMask
namespace Go.Proofs.Ytfgfejcnkjeghaa.reo
open Go.RowKit mem
set_option linter.unusedVariables false

theorem sub_at {w : World} {v : Value} {l : List Th} (h : Sub TE 0 w v l) {k : Nat} {x : Th} (hx : l[k]? = some x) :
    ∃ g o c, v = .slice (some ⟨g, o, none⟩) l.length c ∧ g < w.heap.size ∧ w.cell? ⟨g, o + k * 3, none⟩ = some (.int .i64 x.at_) ∧ w.cell? ⟨g, o + k * 3 + 1, none⟩ = some (.string x.tx) ∧ w.cell? ⟨g, o + k * 3 + 2, none⟩ = some (.int .i64 x.tick) := by
  rcases h with ⟨_, h0⟩ | h
  · rw [h0] at hx; simp at hx
  · obtain ⟨g, o, c, hv, _, _, _, hg, hc⟩ := h.cell
    exact ⟨g, o, c, hv, hg, hc k x hx 0 _ rfl, hc k x hx 1 _ rfl, hc k x hx 2 _ rfl⟩

set_option maxRecDepth 100000 in
set_option maxHeartbeats 1000000 in
theorem same (v1 v2 : Value) (l : List Th) (w : World) (h1 : Sub TE 0 w v1 l) (h2 : Sub TE 0 w v2 l) (hl : l.length ≤ 1000000) :
    Calls Try.prog 21 #[v1, v2] w fun e w' => e = .returned (.bool true) ∧ New w w' := by
  obtain ⟨a1, c1, hv1, hc1, _⟩ := h1.form
  obtain ⟨a2, c2, hv2, hc2, _⟩ := h2.form
  have HF1 := Lib.hid h1
  have HF2 := Lib.hid h2
  subst hv1 hv2
  clear h1 h2
  have hlm : l.length ≤ maxLen := by unfold maxLen; omega
  go_enter Try.func21, Try.ntmps21
  go_wp2_with fail
  go_loopw [13] (fun i wr => ∃ k : Nat, k ≤ l.length ∧ i = .int .i64 k ∧ New w wr) (fun i _ => l.length - (intOf i).toNat)
  case atStart => exact ⟨0, Nat.zero_le _, rfl, Turns.refl _ _⟩
  case round =>
    obtain ⟨k, hk, rfl, hnw⟩ := hrel
    by_cases hlt : k < l.length
    · obtain ⟨x, hx⟩ : ∃ x, l[k]? = some x := ⟨_, List.getElem?_eq_getElem hlt⟩
      obtain ⟨g1, o1, c1', hv1, hg1, d0, d1, d2⟩ := sub_at (Sub.turns HF1.out hnw (fun _ _ h => h)) hx
      obtain ⟨g2, o2, c2', hv2, hg2, e0, e1, e2⟩ := sub_at (Sub.turns HF2.out hnw (fun _ _ h => h)) hx
      injection hv1 with hv1 _ hw1
      injection hv2 with hv2 _ hw2
      subst hv1 hv2 hw1 hw2
      have b1 : (k : Int) < (l.length : Int) := by omega
      have b2 : (0 : Int) ≤ (k : Int) := by omega
      clear hx
      obtain ⟨xa, xt, xk⟩ := x
      dsimp only at *
      have bs := toList_beq xt xt rfl
      have HN := Lib.hid hnw
      clear hnw
      go_wp2_with fail
      go_region
      all_goals
        go_wp2_with fail
        go_roundw
        case rel => exact ⟨k + 1, by omega, by go_num, HN.out.drew⟩
        case measure => simp [intOf]; omega
    · obtain rfl : k = l.length := by omega
      go_wp2
      go_ret
      exact ⟨rfl, hnw⟩

abbrev TS : TypeId := 28
/-- a state's cells: the buffer, the reference's, the clock -/
def stL (p : Nat) (b : B) (v : Value) (now : Int) : List Value := [.pointer (some ⟨p, 0, none⟩), .int .i64 b.most, .int .i64 b.wait, .bool b.begun, .int .i64 b.next, v, .int .i64 b.lost, .int .i64 now]
abbrev zsL : List Value := [.pointer none, .int .i64 0, .int .i64 0, .bool false, .int .i64 0, .slice none 0 0, .int .i64 0, .int .i64 0]
theorem eight {w : World} {p : Nat} {a b c d e f g h : Value} {T : TypeId} (hb : Blk w p #[a, b, c, d, e, f, g, h] T) :
    (w.cell? ⟨p, 0, none⟩ = some a ∧ w.cell? ⟨p, 1, none⟩ = some b ∧ w.cell? ⟨p, 2, none⟩ = some c ∧ w.cell? ⟨p, 3, none⟩ = some d ∧ w.cell? ⟨p, 4, none⟩ = some e ∧ w.cell? ⟨p, 5, none⟩ = some f ∧ w.cell? ⟨p, 6, none⟩ = some g ∧ w.cell? ⟨p, 7, none⟩ = some h)
    ∧ w.frozen? ⟨p, 0, none⟩ = false ∧ w.frozen? ⟨p, 1, none⟩ = false ∧ w.frozen? ⟨p, 2, none⟩ = false ∧ w.frozen? ⟨p, 3, none⟩ = false ∧ w.frozen? ⟨p, 4, none⟩ = false ∧ w.frozen? ⟨p, 5, none⟩ = false ∧ w.frozen? ⟨p, 6, none⟩ = false ∧ w.frozen? ⟨p, 7, none⟩ = false :=
  ⟨⟨hb.cell 0, hb.cell 1, hb.cell 2, hb.cell 3, hb.cell 4, hb.cell 5, hb.cell 6, hb.cell 7⟩, hb.free 0, hb.free 1, hb.free 2, hb.free 3, hb.free 4, hb.free 5, hb.free 6, hb.free 7⟩

set_option maxRecDepth 100000 in
set_option maxHeartbeats 1000000 in
theorem beginC (m a : Int) (w0 w : World) (nw : New w0 w) :
    Calls Try.prog 8 #[.int .i64 m, .int .i64 a] w fun e w' => ∃ p, e = .returned (.tuple #[.agg (stL p (zeroB (1 + m % 256 % 12) (a % 16)) (.slice none 0 0) 0).toArray, .bool true]) ∧ Own w0 w' p (.slice none 0 0) (zeroB (1 + m % 256 % 12) (a % 16)) := by
  have M8 := mask.mask8 m
  have M4 := mask.mask4 a
  obtain ⟨F, hF⟩ : ∃ F, F = 1 + m % 256 % 12 := ⟨_, rfl⟩
  obtain ⟨A, hA⟩ : ∃ A, A = a % 16 := ⟨_, rfl⟩
  have hv : 1 ≤ F ∧ F ≤ 1024 ∧ 0 ≤ A ∧ A ≤ 1099511627776 := by omega
  have e1 : 1 + m % 256 % 12 = F := hF.symm
  have e2 : a % 16 = A := hA.symm
  have hm0 : 0 ≤ m % 256 := by omega
  simp only [e1, e2]
  have HNW := Lib.hid (fun w1 => new_ok F A w1 hv)
  have s1 : IntKind.i64.wrap F = F := IntWalk.i64_in _ (by omega)
  have HNN := Lib.hid nw
  clear hF hA hv nw
  rw [e2] at M4
  generalize m % 256 = m8 at *
  have hbr : Blk ((w.alloc (.cells zsL.toArray TS)).alloc (.cells #[.int .i64 F, .int .i64 A] 52)) w.heap.size zsL.toArray TS := (Blk.new _ _ _).alloc _
  have hbc : Blk ((w.alloc (.cells zsL.toArray TS)).alloc (.cells #[.int .i64 F, .int .i64 A] 52)) (w.heap.size + 1) #[.int .i64 F, .int .i64 A] 52 := Blk.new' _ _ _ _ (by simp)
  have hn1 : New w0 ((w.alloc (.cells zsL.toArray TS)).alloc (.cells #[.int .i64 F, .int .i64 A] 52)) := (HNN.out.alloc _).alloc _
  have HBR := Lib.hid hbr
  have HBC := Lib.hid hbc
  have HN1 := Lib.hid hn1
  clear hbr hbc hn1 e2
  go_enter Try.func8, Try.ntmps8
  go_upto_region 2 with fail
  refine (show Code.wp _ _ _ _ ((w.alloc (.cells zsL.toArray TS)).alloc (.cells #[.int .i64 F, .int .i64 A] 52)) from ?_)
  generalize (w.alloc (.cells zsL.toArray TS)).alloc (.cells #[.int .i64 F, .int .i64 A] 52) = w1 at *
  generalize hpc : w.heap.size + 1 = pc at *
  generalize hpr : w.heap.size = pr at *
  have HPR : Hid (w0.heap.size ≤ pr ∧ pr ≠ pc) := Lib.hid ⟨by have := HNN.out.size; omega, by omega⟩
  have hne := HPR.out.2
  have hne' := hne.symm
  clear hpc hpr HNN
  have k0 : w1.cell? ⟨pc, 0, none⟩ = some (.int .i64 F) := HBC.out.cell 0
  have k1 : w1.cell? ⟨pc, 1, none⟩ = some (.int .i64 A) := HBC.out.cell 1
  go_wp2_with fail
  refine (HNW.out w1).mono ?_
  rintro e w2 ⟨p, rfl, hq, hn2, hp2⟩
  have hr2 := hn2.blk HBR.out (fun h => h)
  have hc2 := hn2.blk HBC.out (fun h => h)
  have ht := puts_turns (S := (· = pr)) (p := pr) (.inl rfl) [.pointer (some ⟨p, 0, none⟩), .int .i64 F, .int .i64 A, .bool false, .int .i64 0, .slice none 0 0, .int .i64 0, .int .i64 0] 0 w2 (Turns.refl _ _)
  have hP := Lib.hid (puts_blk zsL [.pointer (some ⟨p, 0, none⟩), .int .i64 F, .int .i64 A, .bool false, .int .i64 0, .slice none 0 0, .int .i64 0, .int .i64 0] hr2 rfl)
  have hA : Own w0 (puts w2 pr 0 [.pointer (some ⟨p, 0, none⟩), .int .i64 F, .int .i64 A, .bool false, .int .i64 0, .slice none 0 0, .int .i64 0, .int .i64 0]) p (.slice none 0 0) (zeroB F A) :=
    ⟨hq.turns ht (by have := HBR.out.lt; omega) (fun g hg => by simp [Value.ownBlock] at hg), (HN1.out.trans (hn2.mono (fun _ _ h => h.elim))).trans (ht.mono (fun k _ hk => .inr (by rw [hk]; exact HPR.out.1))), Nat.le_trans HN1.out.size hp2, fun g hg => by simp [Value.ownBlock] at hg⟩
  have HA := Lib.hid hA
  obtain ⟨⟨g0, g1, g2, g3, g4, g5, g6, g7⟩, f0, f1, f2, f3, f4, f5, f6, f7⟩ := eight hr2
  have j0 : w2.cell? ⟨pc, 0, none⟩ = some (.int .i64 F) := hc2.cell 0
  have j1 : w2.cell? ⟨pc, 1, none⟩ = some (.int .i64 A) := hc2.cell 1
  clear hr2 hc2 ht hA hn2 hq hp2 HNW k0 k1
  go_wp2_with fail
  refine (show bodyPost _ _ _ _ _ (puts w2 pr 0 [.pointer (some ⟨p, 0, none⟩), .int .i64 F, .int .i64 A, .bool false, .int .i64 0, .slice none 0 0, .int .i64 0, .int .i64 0]) from ?_)
  generalize puts w2 pr 0 [.pointer (some ⟨p, 0, none⟩), .int .i64 F, .int .i64 A, .bool false, .int .i64 0, .slice none 0 0, .int .i64 0, .int .i64 0] = w9 at *
  clear f0 f1 f2 f3 f4 f5 f6 f7 g0 g1 g2 g3 g4 g5 g6 g7
  obtain ⟨⟨g0, g1, g2, g3, g4, g5, g6, g7⟩, _⟩ := eight hP.out
  refine bodyPost_ret (v := .tuple #[.agg #[.pointer (some ⟨p, 0, none⟩), .int .i64 F, .int .i64 A, .bool false, .int .i64 0, .slice none 0 0, .int .i64 0, .int .i64 0], .bool true]) (by simp [results, Try.results8, go_sem, g0, g1, g2, g3, g4, g5, g6, g7]) rfl ?_
  exact ⟨p, rfl, HA.out⟩
end Go.Proofs.Ytfgfejcnkjeghaa.reo
