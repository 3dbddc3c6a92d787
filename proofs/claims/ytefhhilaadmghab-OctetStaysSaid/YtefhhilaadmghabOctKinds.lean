/-
  One step of the law of layer 2: what is taken of the reader, and of the reference's.
-/
import Derived.Test.YtefhhilaadmghabOctTake
import Derived.Test.YtefhhilaadmghabMask
namespace Go.Proofs.Ytefhhilaadmghab.oref
open Go.RowKit mem rd wr

/-- the two arguments' boxes and the result's, in whatever world -/
structure Three (w : World) (B : Nat) (s : ByteArray) (e k n : Int) : Prop where
  b1 : Blk w B #[.string s, .int .i64 e] 55
  b2 : Blk w (B + 1) #[.int .i64 k, .int .i64 n] 59
  b3 : Blk w (B + 2) #[.string ⟨#[]⟩, .int .i64 0] 55
theorem Three.turns {S : Nat → Prop} {w w' : World} {B : Nat} {s : ByteArray} {e k n : Int} (h : Three w B s e k n) (ht : Turns S w w') (h1 : ¬ S B) (h2 : ¬ S (B + 1)) (h3 : ¬ S (B + 2)) : Three w' B s e k n :=
  ⟨ht.blk h.b1 h1, ht.blk h.b2 h2, ht.blk h.b3 h3⟩
abbrev W3 (w : World) (s : ByteArray) (e k n : Int) : World := ((w.alloc (.cells #[.string s, .int .i64 e] 55)).alloc (.cells #[.int .i64 k, .int .i64 n] 59)).alloc (.cells #[.string ⟨#[]⟩, .int .i64 0] 55)
theorem Three.new (w : World) (s : ByteArray) (e k n : Int) : Three (W3 w s e k n) w.heap.size s e k n := by
  refine ⟨((Blk.new w _ _).alloc _).alloc _, ?_, ?_⟩
  · have := (Blk.new (w.alloc (.cells #[.string s, .int .i64 e] 55)) #[.int .i64 k, .int .i64 n] 59).alloc (.cells #[.string ⟨#[]⟩, .int .i64 0] 55)
    rwa [World.size_alloc] at this
  · have := Blk.new ((w.alloc (.cells #[.string s, .int .i64 e] 55)).alloc (.cells #[.int .i64 k, .int .i64 n] 59)) #[.string ⟨#[]⟩, .int .i64 0] 55
    rwa [World.size_alloc, World.size_alloc] at this
theorem W3.new (w : World) (s : ByteArray) (e k n : Int) : New w (W3 w s e k n) := (((Turns.refl _ _).alloc _).alloc _).alloc _
/-- what a step leaves -/
def Stepped (w w' : World) (p : Nat) (s : ByteArray) (e : Int) : Prop := Rd w' p s e ∧ Turns (· = p) w w'
theorem stepped {w W w2 w3 : World} {p : Nat} {s' : ByteArray} {e' : Int} (hW : New w W) (hr : Rd w2 p s' e') (ht : Turns (· = p) W w2) (hn : New w2 w3) (hp : p < w.heap.size) :
    Stepped w w3 p s' e' := by
  refine ⟨hr.turns hn (fun h => h), ?_⟩
  exact (hW.mono (fun _ _ h => h.elim)).trans ((ht.mono (fun _ _ h => .inl h)).trans (hn.mono (fun _ _ h => h.elim)))

theorem rtake1 (s : ByteArray) (e : Int) (w : World) (hs : s.size ≤ 4611686018427387904) (hi : Inv s e) :
    Calls Try.prog 32 #[.agg #[.string s, .int .i64 e], .int .i64 1] w fun en w' => en = .returned (.tuple #[.agg #[.string (takeS s e 1), .int .i64 (takeE s e 1)], .int .u64 (numV s 1)]) ∧ New w w' := rtake s e 1 w hs hi

theorem rtake2 (s : ByteArray) (e : Int) (w : World) (hs : s.size ≤ 4611686018427387904) (hi : Inv s e) :
    Calls Try.prog 32 #[.agg #[.string s, .int .i64 e], .int .i64 2] w fun en w' => en = .returned (.tuple #[.agg #[.string (takeS s e 2), .int .i64 (takeE s e 2)], .int .u64 (numV s 2)]) ∧ New w w' := rtake s e 2 w hs hi

theorem rtake4 (s : ByteArray) (e : Int) (w : World) (hs : s.size ≤ 4611686018427387904) (hi : Inv s e) :
    Calls Try.prog 32 #[.agg #[.string s, .int .i64 e], .int .i64 4] w fun en w' => en = .returned (.tuple #[.agg #[.string (takeS s e 4), .int .i64 (takeE s e 4)], .int .u64 (numV s 4)]) ∧ New w w' := rtake s e 4 w hs hi

set_option maxHeartbeats 1000000 in
theorem take_1 (p : Nat) (s : ByteArray) (e n : Int) (w : World) (h : Rd w p s e) (hi : Inv s e) (hs : s.size ≤ 4611686018427387904) :
    Calls Try.prog 28 #[.pointer (some ⟨p, 0, none⟩), .agg #[.string s, .int .i64 e], .agg #[.int .i64 1, .int .i64 n]] w fun en w' =>
      en = .returned (.tuple #[.agg #[.string (takeS s e n), .int .i64 (takeE s e n)], .bool true]) ∧ Stepped w w' p (takeS s e n) (takeE s e n) := by
  have hp := h.lt
  have h3 := Three.new w s e 1 n
  have n3 := W3.new w s e 1 n
  have r3 := h.turns n3 (fun h => h)
  have M1 := rd.bytes p s e n _ r3 hs
  unfold Takes at M1
  have R1 := fun w => rbytes s e n w hs hi
  generalize takeB s n = b at *
  have HM := Lib.hid M1
  have HR := Lib.hid R1
  have H3 := Lib.hid h3
  clear M1 R1 h3
  generalize takeS s e n = s' at *
  generalize takeE s e n = e' at *
  go_enter Try.func28, Try.ntmps28
  go_wp2_with fail
  refine (HM.out).mono ?_
  rintro en w1 ⟨rfl, hw⟩
  obtain ⟨hr1, ht1⟩ := hw
  have t1 := H3.out.turns ht1 (show ¬ (w.heap.size = p) by omega) (show ¬ (w.heap.size + 1 = p) by omega) (show ¬ (w.heap.size + 2 = p) by omega)
  have c10 : w1.cell? ⟨w.heap.size, 0, none⟩ = some (.string s) := t1.b1.cell 0
  have c11 : w1.cell? ⟨w.heap.size, 1, none⟩ = some (.int .i64 e) := t1.b1.cell 1
  have c21 : w1.cell? ⟨w.heap.size + 1, 1, none⟩ = some (.int .i64 n) := t1.b2.cell 1
  go_wp2_with fail
  refine (HR.out _).mono ?_
  rintro en w2 ⟨rfl, hn2⟩
  have t2 := t1.turns hn2 (fun h => h) (fun h => h) (fun h => h)
  have hr2 := hr1.turns hn2 (fun h => h)
  have ht2 := ht1.trans (hn2.mono (fun _ _ h => h.elim))
  clear c10 c11 c21 t1 hn2 hr1 ht1 HM HR H3
  have hlt := t2.b3.lt
  have c30 : w2.cell? ⟨w.heap.size + 2, 0, none⟩ = some (.string ⟨#[]⟩) := t2.b3.cell 0
  have c31 : w2.cell? ⟨w.heap.size + 2, 1, none⟩ = some (.int .i64 0) := t2.b3.cell 1
  have f30 := t2.b3.free 0
  have f31 := t2.b3.free 1
  go_wp2
  have e1 : Blk w2 (w.heap.size + 1 + 1) #[.string ⟨#[]⟩, .int .i64 0] 55 := t2.b3
  have st0 : Turns (· = p) w w2 := (n3.mono (fun _ _ h => h.elim)).trans (ht2.mono (fun _ _ h => .inl h))
  have b3 := ((e1.set 0 (.string s')).set 1 (.int .i64 e')).alloc (.cells #[.string s', .int .i64 e'] 55)
  have st := (((st0.setCell (p := ⟨w.heap.size + 1 + 1, 0, none⟩) (.inr (show w.heap.size ≤ w.heap.size + 1 + 1 by omega)) (.string s')).setCell (p := ⟨w.heap.size + 1 + 1, 1, none⟩) (.inr (show w.heap.size ≤ w.heap.size + 1 + 1 by omega)) (.int .i64 e')).alloc (.cells #[.string s', .int .i64 e'] 55))
  have hr4 : Rd _ p s' e' := (((Blk.setOther hr2 (a := ⟨w.heap.size + 1 + 1, 0, none⟩) (by show w.heap.size + 1 + 1 ≠ p; omega) (.string s')).setOther (a := ⟨w.heap.size + 1 + 1, 1, none⟩) (by show w.heap.size + 1 + 1 ≠ p; omega) (.int .i64 e')).alloc (.cells #[.string s', .int .i64 e'] 55))
  generalize ((w2.setCell ⟨w.heap.size + 1 + 1, 0, none⟩ (.string s')).setCell ⟨w.heap.size + 1 + 1, 1, none⟩ (.int .i64 e')).alloc (.cells #[.string s', .int .i64 e'] 55) = w4 at *
  clear c30 c31 f30 f31
  have c30 : w4.cell? ⟨w.heap.size + 1 + 1, 0, none⟩ = some (.string s') := b3.cell 0
  have c31 : w4.cell? ⟨w.heap.size + 1 + 1, 1, none⟩ = some (.int .i64 e') := b3.cell 1
  refine bodyPost_ret (v := .tuple #[.agg #[.string s', .int .i64 e'], .bool true]) (by simp [results, Try.results28, go_sem, c30, c31]) rfl ?_
  exact ⟨rfl, hr4, st⟩

set_option maxHeartbeats 1000000 in
theorem take_2 (p : Nat) (s : ByteArray) (e n : Int) (w : World) (h : Rd w p s e) (hi : Inv s e) (hs : s.size ≤ 4611686018427387904) :
    Calls Try.prog 28 #[.pointer (some ⟨p, 0, none⟩), .agg #[.string s, .int .i64 e], .agg #[.int .i64 2, .int .i64 n]] w fun en w' =>
      en = .returned (.tuple #[.agg #[.string (takeS s e (lim n)), .int .i64 (takeE s e (lim n))], .bool true]) ∧ Stepped w w' p (takeS s e (lim n)) (takeE s e (lim n)) := by
  have hp := h.lt
  have h3 := Three.new w s e 2 n
  have n3 := W3.new w s e 2 n
  have r3 := h.turns n3 (fun h => h)
  have M1 := num p s e n _ r3 hs
  unfold Takes at M1
  have R1 := fun w => rtake s e n w hs hi
  generalize numV s n = b at *
  have HM := Lib.hid M1
  have HR := Lib.hid R1
  have H3 := Lib.hid h3
  clear M1 R1 h3
  generalize takeS s e (lim n) = s' at *
  generalize takeE s e (lim n) = e' at *
  go_enter Try.func28, Try.ntmps28
  go_wp2_with fail
  refine (HM.out).mono ?_
  rintro en w1 ⟨rfl, hw⟩
  obtain ⟨hr1, ht1⟩ := hw
  have t1 := H3.out.turns ht1 (show ¬ (w.heap.size = p) by omega) (show ¬ (w.heap.size + 1 = p) by omega) (show ¬ (w.heap.size + 2 = p) by omega)
  have c10 : w1.cell? ⟨w.heap.size, 0, none⟩ = some (.string s) := t1.b1.cell 0
  have c11 : w1.cell? ⟨w.heap.size, 1, none⟩ = some (.int .i64 e) := t1.b1.cell 1
  have c21 : w1.cell? ⟨w.heap.size + 1, 1, none⟩ = some (.int .i64 n) := t1.b2.cell 1
  go_wp2_with fail
  refine (HR.out _).mono ?_
  rintro en w2 ⟨rfl, hn2⟩
  have t2 := t1.turns hn2 (fun h => h) (fun h => h) (fun h => h)
  have hr2 := hr1.turns hn2 (fun h => h)
  have ht2 := ht1.trans (hn2.mono (fun _ _ h => h.elim))
  clear c10 c11 c21 t1 hn2 hr1 ht1 HM HR H3
  have hlt := t2.b3.lt
  have c30 : w2.cell? ⟨w.heap.size + 2, 0, none⟩ = some (.string ⟨#[]⟩) := t2.b3.cell 0
  have c31 : w2.cell? ⟨w.heap.size + 2, 1, none⟩ = some (.int .i64 0) := t2.b3.cell 1
  have f30 := t2.b3.free 0
  have f31 := t2.b3.free 1
  go_wp2
  have e1 : Blk w2 (w.heap.size + 1 + 1) #[.string ⟨#[]⟩, .int .i64 0] 55 := t2.b3
  have st0 : Turns (· = p) w w2 := (n3.mono (fun _ _ h => h.elim)).trans (ht2.mono (fun _ _ h => .inl h))
  have b3 := ((e1.set 0 (.string s')).set 1 (.int .i64 e')).alloc (.cells #[.string s', .int .i64 e'] 55)
  have st := (((st0.setCell (p := ⟨w.heap.size + 1 + 1, 0, none⟩) (.inr (show w.heap.size ≤ w.heap.size + 1 + 1 by omega)) (.string s')).setCell (p := ⟨w.heap.size + 1 + 1, 1, none⟩) (.inr (show w.heap.size ≤ w.heap.size + 1 + 1 by omega)) (.int .i64 e')).alloc (.cells #[.string s', .int .i64 e'] 55))
  have hr4 : Rd _ p s' e' := (((Blk.setOther hr2 (a := ⟨w.heap.size + 1 + 1, 0, none⟩) (by show w.heap.size + 1 + 1 ≠ p; omega) (.string s')).setOther (a := ⟨w.heap.size + 1 + 1, 1, none⟩) (by show w.heap.size + 1 + 1 ≠ p; omega) (.int .i64 e')).alloc (.cells #[.string s', .int .i64 e'] 55))
  generalize ((w2.setCell ⟨w.heap.size + 1 + 1, 0, none⟩ (.string s')).setCell ⟨w.heap.size + 1 + 1, 1, none⟩ (.int .i64 e')).alloc (.cells #[.string s', .int .i64 e'] 55) = w4 at *
  clear c30 c31 f30 f31
  have c30 : w4.cell? ⟨w.heap.size + 1 + 1, 0, none⟩ = some (.string s') := b3.cell 0
  have c31 : w4.cell? ⟨w.heap.size + 1 + 1, 1, none⟩ = some (.int .i64 e') := b3.cell 1
  refine bodyPost_ret (v := .tuple #[.agg #[.string s', .int .i64 e'], .bool true]) (by simp [results, Try.results28, go_sem, c30, c31]) rfl ?_
  exact ⟨rfl, hr4, st⟩

set_option maxHeartbeats 1000000 in
theorem take_3 (p : Nat) (s : ByteArray) (e n : Int) (w : World) (h : Rd w p s e) (hi : Inv s e) (hs : s.size ≤ 4611686018427387904) :
    Calls Try.prog 28 #[.pointer (some ⟨p, 0, none⟩), .agg #[.string s, .int .i64 e], .agg #[.int .i64 3, .int .i64 n]] w fun en w' =>
      en = .returned (.tuple #[.agg #[.string (takeS s e 1), .int .i64 (takeE s e 1)], .bool true]) ∧ Stepped w w' p (takeS s e 1) (takeE s e 1) := by
  have hp := h.lt
  have h3 := Three.new w s e 3 n
  have n3 := W3.new w s e 3 n
  have r3 := h.turns n3 (fun h => h)
  have M1 := ru8 p s e _ r3 hs
  unfold Takes at M1
  have R1 := fun w => rtake1 s e w hs hi
  have v0 := (numV_bd s 1).1
  have v1 := numV_bd1 s
  generalize numV s 1 = b at *
  have HM := Lib.hid M1
  have HR := Lib.hid R1
  have H3 := Lib.hid h3
  clear M1 R1 h3
  generalize takeS s e 1 = s' at *
  generalize takeE s e 1 = e' at *
  go_enter Try.func28, Try.ntmps28
  go_wp2_with fail
  refine (HM.out).mono ?_
  rintro en w1 ⟨rfl, hw⟩
  obtain ⟨hr1, ht1⟩ := hw
  have t1 := H3.out.turns ht1 (show ¬ (w.heap.size = p) by omega) (show ¬ (w.heap.size + 1 = p) by omega) (show ¬ (w.heap.size + 2 = p) by omega)
  have c10 : w1.cell? ⟨w.heap.size, 0, none⟩ = some (.string s) := t1.b1.cell 0
  have c11 : w1.cell? ⟨w.heap.size, 1, none⟩ = some (.int .i64 e) := t1.b1.cell 1
  have c21 : w1.cell? ⟨w.heap.size + 1, 1, none⟩ = some (.int .i64 n) := t1.b2.cell 1
  go_wp2_with fail
  refine (HR.out _).mono ?_
  rintro en w2 ⟨rfl, hn2⟩
  have t2 := t1.turns hn2 (fun h => h) (fun h => h) (fun h => h)
  have hr2 := hr1.turns hn2 (fun h => h)
  have ht2 := ht1.trans (hn2.mono (fun _ _ h => h.elim))
  clear c10 c11 c21 t1 hn2 hr1 ht1 HM HR H3
  have hlt := t2.b3.lt
  have c30 : w2.cell? ⟨w.heap.size + 2, 0, none⟩ = some (.string ⟨#[]⟩) := t2.b3.cell 0
  have c31 : w2.cell? ⟨w.heap.size + 2, 1, none⟩ = some (.int .i64 0) := t2.b3.cell 1
  have f30 := t2.b3.free 0
  have f31 := t2.b3.free 1
  go_wp2
  have e1 : Blk w2 (w.heap.size + 1 + 1) #[.string ⟨#[]⟩, .int .i64 0] 55 := t2.b3
  have st0 : Turns (· = p) w w2 := (n3.mono (fun _ _ h => h.elim)).trans (ht2.mono (fun _ _ h => .inl h))
  have b3 := ((e1.set 0 (.string s')).set 1 (.int .i64 e')).alloc (.cells #[.string s', .int .i64 e'] 55)
  have st := (((st0.setCell (p := ⟨w.heap.size + 1 + 1, 0, none⟩) (.inr (show w.heap.size ≤ w.heap.size + 1 + 1 by omega)) (.string s')).setCell (p := ⟨w.heap.size + 1 + 1, 1, none⟩) (.inr (show w.heap.size ≤ w.heap.size + 1 + 1 by omega)) (.int .i64 e')).alloc (.cells #[.string s', .int .i64 e'] 55))
  have hr4 : Rd _ p s' e' := (((Blk.setOther hr2 (a := ⟨w.heap.size + 1 + 1, 0, none⟩) (by show w.heap.size + 1 + 1 ≠ p; omega) (.string s')).setOther (a := ⟨w.heap.size + 1 + 1, 1, none⟩) (by show w.heap.size + 1 + 1 ≠ p; omega) (.int .i64 e')).alloc (.cells #[.string s', .int .i64 e'] 55))
  generalize ((w2.setCell ⟨w.heap.size + 1 + 1, 0, none⟩ (.string s')).setCell ⟨w.heap.size + 1 + 1, 1, none⟩ (.int .i64 e')).alloc (.cells #[.string s', .int .i64 e'] 55) = w4 at *
  clear c30 c31 f30 f31
  have c30 : w4.cell? ⟨w.heap.size + 1 + 1, 0, none⟩ = some (.string s') := b3.cell 0
  have c31 : w4.cell? ⟨w.heap.size + 1 + 1, 1, none⟩ = some (.int .i64 e') := b3.cell 1
  refine bodyPost_ret (v := .tuple #[.agg #[.string s', .int .i64 e'], .bool true]) (by simp [results, Try.results28, go_sem, c30, c31]) rfl ?_
  exact ⟨rfl, hr4, st⟩

set_option maxHeartbeats 1000000 in
theorem take_4 (p : Nat) (s : ByteArray) (e n : Int) (w : World) (h : Rd w p s e) (hi : Inv s e) (hs : s.size ≤ 4611686018427387904) :
    Calls Try.prog 28 #[.pointer (some ⟨p, 0, none⟩), .agg #[.string s, .int .i64 e], .agg #[.int .i64 4, .int .i64 n]] w fun en w' =>
      en = .returned (.tuple #[.agg #[.string (takeS s e 2), .int .i64 (takeE s e 2)], .bool true]) ∧ Stepped w w' p (takeS s e 2) (takeE s e 2) := by
  have hp := h.lt
  have h3 := Three.new w s e 4 n
  have n3 := W3.new w s e 4 n
  have r3 := h.turns n3 (fun h => h)
  have M1 := ru16 p s e _ r3 hs
  unfold Takes at M1
  have R1 := fun w => rtake2 s e w hs hi
  have v0 := (numV_bd s 2).1
  have v1 := numV_bd2 s
  generalize numV s 2 = b at *
  have HM := Lib.hid M1
  have HR := Lib.hid R1
  have H3 := Lib.hid h3
  clear M1 R1 h3
  generalize takeS s e 2 = s' at *
  generalize takeE s e 2 = e' at *
  go_enter Try.func28, Try.ntmps28
  go_wp2_with fail
  refine (HM.out).mono ?_
  rintro en w1 ⟨rfl, hw⟩
  obtain ⟨hr1, ht1⟩ := hw
  have t1 := H3.out.turns ht1 (show ¬ (w.heap.size = p) by omega) (show ¬ (w.heap.size + 1 = p) by omega) (show ¬ (w.heap.size + 2 = p) by omega)
  have c10 : w1.cell? ⟨w.heap.size, 0, none⟩ = some (.string s) := t1.b1.cell 0
  have c11 : w1.cell? ⟨w.heap.size, 1, none⟩ = some (.int .i64 e) := t1.b1.cell 1
  have c21 : w1.cell? ⟨w.heap.size + 1, 1, none⟩ = some (.int .i64 n) := t1.b2.cell 1
  go_wp2_with fail
  refine (HR.out _).mono ?_
  rintro en w2 ⟨rfl, hn2⟩
  have t2 := t1.turns hn2 (fun h => h) (fun h => h) (fun h => h)
  have hr2 := hr1.turns hn2 (fun h => h)
  have ht2 := ht1.trans (hn2.mono (fun _ _ h => h.elim))
  clear c10 c11 c21 t1 hn2 hr1 ht1 HM HR H3
  have hlt := t2.b3.lt
  have c30 : w2.cell? ⟨w.heap.size + 2, 0, none⟩ = some (.string ⟨#[]⟩) := t2.b3.cell 0
  have c31 : w2.cell? ⟨w.heap.size + 2, 1, none⟩ = some (.int .i64 0) := t2.b3.cell 1
  have f30 := t2.b3.free 0
  have f31 := t2.b3.free 1
  go_wp2
  have e1 : Blk w2 (w.heap.size + 1 + 1) #[.string ⟨#[]⟩, .int .i64 0] 55 := t2.b3
  have st0 : Turns (· = p) w w2 := (n3.mono (fun _ _ h => h.elim)).trans (ht2.mono (fun _ _ h => .inl h))
  have b3 := ((e1.set 0 (.string s')).set 1 (.int .i64 e')).alloc (.cells #[.string s', .int .i64 e'] 55)
  have st := (((st0.setCell (p := ⟨w.heap.size + 1 + 1, 0, none⟩) (.inr (show w.heap.size ≤ w.heap.size + 1 + 1 by omega)) (.string s')).setCell (p := ⟨w.heap.size + 1 + 1, 1, none⟩) (.inr (show w.heap.size ≤ w.heap.size + 1 + 1 by omega)) (.int .i64 e')).alloc (.cells #[.string s', .int .i64 e'] 55))
  have hr4 : Rd _ p s' e' := (((Blk.setOther hr2 (a := ⟨w.heap.size + 1 + 1, 0, none⟩) (by show w.heap.size + 1 + 1 ≠ p; omega) (.string s')).setOther (a := ⟨w.heap.size + 1 + 1, 1, none⟩) (by show w.heap.size + 1 + 1 ≠ p; omega) (.int .i64 e')).alloc (.cells #[.string s', .int .i64 e'] 55))
  generalize ((w2.setCell ⟨w.heap.size + 1 + 1, 0, none⟩ (.string s')).setCell ⟨w.heap.size + 1 + 1, 1, none⟩ (.int .i64 e')).alloc (.cells #[.string s', .int .i64 e'] 55) = w4 at *
  clear c30 c31 f30 f31
  have c30 : w4.cell? ⟨w.heap.size + 1 + 1, 0, none⟩ = some (.string s') := b3.cell 0
  have c31 : w4.cell? ⟨w.heap.size + 1 + 1, 1, none⟩ = some (.int .i64 e') := b3.cell 1
  refine bodyPost_ret (v := .tuple #[.agg #[.string s', .int .i64 e'], .bool true]) (by simp [results, Try.results28, go_sem, c30, c31]) rfl ?_
  exact ⟨rfl, hr4, st⟩

set_option maxHeartbeats 1000000 in
theorem take_5 (p : Nat) (s : ByteArray) (e n : Int) (w : World) (h : Rd w p s e) (hi : Inv s e) (hs : s.size ≤ 4611686018427387904) :
    Calls Try.prog 28 #[.pointer (some ⟨p, 0, none⟩), .agg #[.string s, .int .i64 e], .agg #[.int .i64 5, .int .i64 n]] w fun en w' =>
      en = .returned (.tuple #[.agg #[.string (takeS s e 4), .int .i64 (takeE s e 4)], .bool true]) ∧ Stepped w w' p (takeS s e 4) (takeE s e 4) := by
  have hp := h.lt
  have h3 := Three.new w s e 5 n
  have n3 := W3.new w s e 5 n
  have r3 := h.turns n3 (fun h => h)
  have M1 := ru32 p s e _ r3 hs
  unfold Takes at M1
  have R1 := fun w => rtake4 s e w hs hi
  have v0 := (numV_bd s 4).1
  have v1 := numV_bd4 s
  generalize numV s 4 = b at *
  have HM := Lib.hid M1
  have HR := Lib.hid R1
  have H3 := Lib.hid h3
  clear M1 R1 h3
  generalize takeS s e 4 = s' at *
  generalize takeE s e 4 = e' at *
  go_enter Try.func28, Try.ntmps28
  go_wp2_with fail
  refine (HM.out).mono ?_
  rintro en w1 ⟨rfl, hw⟩
  obtain ⟨hr1, ht1⟩ := hw
  have t1 := H3.out.turns ht1 (show ¬ (w.heap.size = p) by omega) (show ¬ (w.heap.size + 1 = p) by omega) (show ¬ (w.heap.size + 2 = p) by omega)
  have c10 : w1.cell? ⟨w.heap.size, 0, none⟩ = some (.string s) := t1.b1.cell 0
  have c11 : w1.cell? ⟨w.heap.size, 1, none⟩ = some (.int .i64 e) := t1.b1.cell 1
  have c21 : w1.cell? ⟨w.heap.size + 1, 1, none⟩ = some (.int .i64 n) := t1.b2.cell 1
  go_wp2_with fail
  refine (HR.out _).mono ?_
  rintro en w2 ⟨rfl, hn2⟩
  have t2 := t1.turns hn2 (fun h => h) (fun h => h) (fun h => h)
  have hr2 := hr1.turns hn2 (fun h => h)
  have ht2 := ht1.trans (hn2.mono (fun _ _ h => h.elim))
  clear c10 c11 c21 t1 hn2 hr1 ht1 HM HR H3
  have hlt := t2.b3.lt
  have c30 : w2.cell? ⟨w.heap.size + 2, 0, none⟩ = some (.string ⟨#[]⟩) := t2.b3.cell 0
  have c31 : w2.cell? ⟨w.heap.size + 2, 1, none⟩ = some (.int .i64 0) := t2.b3.cell 1
  have f30 := t2.b3.free 0
  have f31 := t2.b3.free 1
  go_wp2
  have e1 : Blk w2 (w.heap.size + 1 + 1) #[.string ⟨#[]⟩, .int .i64 0] 55 := t2.b3
  have st0 : Turns (· = p) w w2 := (n3.mono (fun _ _ h => h.elim)).trans (ht2.mono (fun _ _ h => .inl h))
  have b3 := ((e1.set 0 (.string s')).set 1 (.int .i64 e')).alloc (.cells #[.string s', .int .i64 e'] 55)
  have st := (((st0.setCell (p := ⟨w.heap.size + 1 + 1, 0, none⟩) (.inr (show w.heap.size ≤ w.heap.size + 1 + 1 by omega)) (.string s')).setCell (p := ⟨w.heap.size + 1 + 1, 1, none⟩) (.inr (show w.heap.size ≤ w.heap.size + 1 + 1 by omega)) (.int .i64 e')).alloc (.cells #[.string s', .int .i64 e'] 55))
  have hr4 : Rd _ p s' e' := (((Blk.setOther hr2 (a := ⟨w.heap.size + 1 + 1, 0, none⟩) (by show w.heap.size + 1 + 1 ≠ p; omega) (.string s')).setOther (a := ⟨w.heap.size + 1 + 1, 1, none⟩) (by show w.heap.size + 1 + 1 ≠ p; omega) (.int .i64 e')).alloc (.cells #[.string s', .int .i64 e'] 55))
  generalize ((w2.setCell ⟨w.heap.size + 1 + 1, 0, none⟩ (.string s')).setCell ⟨w.heap.size + 1 + 1, 1, none⟩ (.int .i64 e')).alloc (.cells #[.string s', .int .i64 e'] 55) = w4 at *
  clear c30 c31 f30 f31
  have c30 : w4.cell? ⟨w.heap.size + 1 + 1, 0, none⟩ = some (.string s') := b3.cell 0
  have c31 : w4.cell? ⟨w.heap.size + 1 + 1, 1, none⟩ = some (.int .i64 e') := b3.cell 1
  refine bodyPost_ret (v := .tuple #[.agg #[.string s', .int .i64 e'], .bool true]) (by simp [results, Try.results28, go_sem, c30, c31]) rfl ?_
  exact ⟨rfl, hr4, st⟩

set_option maxHeartbeats 1000000 in
theorem take_6 (p : Nat) (s : ByteArray) (e n : Int) (w : World) (h : Rd w p s e) (hi : Inv s e) (hs : s.size ≤ 4611686018427387904) :
    Calls Try.prog 28 #[.pointer (some ⟨p, 0, none⟩), .agg #[.string s, .int .i64 e], .agg #[.int .i64 6, .int .i64 n]] w fun en w' =>
      en = .returned (.tuple #[.agg #[.string (takeS s e s.size), .int .i64 (takeE s e s.size)], .bool true]) ∧ Stepped w w' p (takeS s e s.size) (takeE s e s.size) := by
  have hp := h.lt
  have h3 := Three.new w s e 6 n
  have n3 := W3.new w s e 6 n
  have r3 := h.turns n3 (fun h => h)
  have M1 := rest p s e _ r3 hs
  unfold Takes at M1
  have R1 := fun w => rbytes s e s.size w hs hi
  generalize takeB s s.size = b at *
  have HM := Lib.hid M1
  have HR := Lib.hid R1
  have H3 := Lib.hid h3
  clear M1 R1 h3
  generalize takeS s e s.size = s' at *
  generalize takeE s e s.size = e' at *
  go_enter Try.func28, Try.ntmps28
  go_wp2_with fail
  refine (HM.out).mono ?_
  rintro en w1 ⟨rfl, hw⟩
  obtain ⟨hr1, ht1⟩ := hw
  have t1 := H3.out.turns ht1 (show ¬ (w.heap.size = p) by omega) (show ¬ (w.heap.size + 1 = p) by omega) (show ¬ (w.heap.size + 2 = p) by omega)
  have c10 : w1.cell? ⟨w.heap.size, 0, none⟩ = some (.string s) := t1.b1.cell 0
  have c11 : w1.cell? ⟨w.heap.size, 1, none⟩ = some (.int .i64 e) := t1.b1.cell 1
  have c21 : w1.cell? ⟨w.heap.size + 1, 1, none⟩ = some (.int .i64 n) := t1.b2.cell 1
  go_wp2_with fail
  refine (HR.out _).mono ?_
  rintro en w2 ⟨rfl, hn2⟩
  have t2 := t1.turns hn2 (fun h => h) (fun h => h) (fun h => h)
  have hr2 := hr1.turns hn2 (fun h => h)
  have ht2 := ht1.trans (hn2.mono (fun _ _ h => h.elim))
  clear c10 c11 c21 t1 hn2 hr1 ht1 HM HR H3
  have hlt := t2.b3.lt
  have c30 : w2.cell? ⟨w.heap.size + 2, 0, none⟩ = some (.string ⟨#[]⟩) := t2.b3.cell 0
  have c31 : w2.cell? ⟨w.heap.size + 2, 1, none⟩ = some (.int .i64 0) := t2.b3.cell 1
  have f30 := t2.b3.free 0
  have f31 := t2.b3.free 1
  go_wp2
  have e1 : Blk w2 (w.heap.size + 1 + 1) #[.string ⟨#[]⟩, .int .i64 0] 55 := t2.b3
  have st0 : Turns (· = p) w w2 := (n3.mono (fun _ _ h => h.elim)).trans (ht2.mono (fun _ _ h => .inl h))
  have b3 := ((e1.set 0 (.string s')).set 1 (.int .i64 e')).alloc (.cells #[.string s', .int .i64 e'] 55)
  have st := (((st0.setCell (p := ⟨w.heap.size + 1 + 1, 0, none⟩) (.inr (show w.heap.size ≤ w.heap.size + 1 + 1 by omega)) (.string s')).setCell (p := ⟨w.heap.size + 1 + 1, 1, none⟩) (.inr (show w.heap.size ≤ w.heap.size + 1 + 1 by omega)) (.int .i64 e')).alloc (.cells #[.string s', .int .i64 e'] 55))
  have hr4 : Rd _ p s' e' := (((Blk.setOther hr2 (a := ⟨w.heap.size + 1 + 1, 0, none⟩) (by show w.heap.size + 1 + 1 ≠ p; omega) (.string s')).setOther (a := ⟨w.heap.size + 1 + 1, 1, none⟩) (by show w.heap.size + 1 + 1 ≠ p; omega) (.int .i64 e')).alloc (.cells #[.string s', .int .i64 e'] 55))
  generalize ((w2.setCell ⟨w.heap.size + 1 + 1, 0, none⟩ (.string s')).setCell ⟨w.heap.size + 1 + 1, 1, none⟩ (.int .i64 e')).alloc (.cells #[.string s', .int .i64 e'] 55) = w4 at *
  clear c30 c31 f30 f31
  have c30 : w4.cell? ⟨w.heap.size + 1 + 1, 0, none⟩ = some (.string s') := b3.cell 0
  have c31 : w4.cell? ⟨w.heap.size + 1 + 1, 1, none⟩ = some (.int .i64 e') := b3.cell 1
  refine bodyPost_ret (v := .tuple #[.agg #[.string s', .int .i64 e'], .bool true]) (by simp [results, Try.results28, go_sem, c30, c31]) rfl ?_
  exact ⟨rfl, hr4, st⟩

set_option maxHeartbeats 1000000 in
theorem take_7 (p : Nat) (s : ByteArray) (e n : Int) (w : World) (h : Rd w p s e) :
    Calls Try.prog 28 #[.pointer (some ⟨p, 0, none⟩), .agg #[.string s, .int .i64 e], .agg #[.int .i64 7, .int .i64 n]] w fun en w' =>
      en = .returned (.tuple #[.agg #[.string (failS s e (n % 8)), .int .i64 (failE e (n % 8))], .bool true]) ∧ Stepped w w' p (failS s e (n % 8)) (failE e (n % 8)) := by
  have hp := h.lt
  have h3 := Three.new w s e 7 n
  have n3 := W3.new w s e 7 n
  have r3 := h.turns n3 (fun h => h)
  have M1 := rd.fail p s e (n % 8) _ r3
  unfold Fails at M1
  have R1 := fun w => rfail s e (n % 8) w
  have HM := Lib.hid M1
  have HR := Lib.hid R1
  have H3 := Lib.hid h3
  clear M1 R1 h3
  generalize failS s e (n % 8) = s' at *
  generalize failE e (n % 8) = e' at *
  have hm := mask.mask3 n
  go_enter Try.func28, Try.ntmps28
  go_wp2_with fail
  refine (HM.out).mono ?_
  rintro en w1 ⟨rfl, hw⟩
  obtain ⟨hr1, ht1⟩ := hw
  have t1 := H3.out.turns ht1 (show ¬ (w.heap.size = p) by omega) (show ¬ (w.heap.size + 1 = p) by omega) (show ¬ (w.heap.size + 2 = p) by omega)
  have c10 : w1.cell? ⟨w.heap.size, 0, none⟩ = some (.string s) := t1.b1.cell 0
  have c11 : w1.cell? ⟨w.heap.size, 1, none⟩ = some (.int .i64 e) := t1.b1.cell 1
  have c21 : w1.cell? ⟨w.heap.size + 1, 1, none⟩ = some (.int .i64 n) := t1.b2.cell 1
  go_wp2_with fail
  refine (HR.out _).mono ?_
  rintro en w2 ⟨rfl, hn2⟩
  have t2 := t1.turns hn2 (fun h => h) (fun h => h) (fun h => h)
  have hr2 := hr1.turns hn2 (fun h => h)
  have ht2 := ht1.trans (hn2.mono (fun _ _ h => h.elim))
  clear c10 c11 c21 t1 hn2 hr1 ht1 HM HR H3
  have hlt := t2.b3.lt
  have c30 : w2.cell? ⟨w.heap.size + 2, 0, none⟩ = some (.string ⟨#[]⟩) := t2.b3.cell 0
  have c31 : w2.cell? ⟨w.heap.size + 2, 1, none⟩ = some (.int .i64 0) := t2.b3.cell 1
  have f30 := t2.b3.free 0
  have f31 := t2.b3.free 1
  go_wp2
  have e1 : Blk w2 (w.heap.size + 1 + 1) #[.string ⟨#[]⟩, .int .i64 0] 55 := t2.b3
  have st0 : Turns (· = p) w w2 := (n3.mono (fun _ _ h => h.elim)).trans (ht2.mono (fun _ _ h => .inl h))
  have b3 := ((e1.set 0 (.string s')).set 1 (.int .i64 e'))
  have st := ((st0.setCell (p := ⟨w.heap.size + 1 + 1, 0, none⟩) (.inr (show w.heap.size ≤ w.heap.size + 1 + 1 by omega)) (.string s')).setCell (p := ⟨w.heap.size + 1 + 1, 1, none⟩) (.inr (show w.heap.size ≤ w.heap.size + 1 + 1 by omega)) (.int .i64 e'))
  have hr4 : Rd _ p s' e' := ((Blk.setOther hr2 (a := ⟨w.heap.size + 1 + 1, 0, none⟩) (by show w.heap.size + 1 + 1 ≠ p; omega) (.string s')).setOther (a := ⟨w.heap.size + 1 + 1, 1, none⟩) (by show w.heap.size + 1 + 1 ≠ p; omega) (.int .i64 e'))
  generalize (w2.setCell ⟨w.heap.size + 1 + 1, 0, none⟩ (.string s')).setCell ⟨w.heap.size + 1 + 1, 1, none⟩ (.int .i64 e') = w4 at *
  clear c30 c31 f30 f31
  have c30 : w4.cell? ⟨w.heap.size + 1 + 1, 0, none⟩ = some (.string s') := b3.cell 0
  have c31 : w4.cell? ⟨w.heap.size + 1 + 1, 1, none⟩ = some (.int .i64 e') := b3.cell 1
  refine bodyPost_ret (v := .tuple #[.agg #[.string s', .int .i64 e'], .bool true]) (by simp [results, Try.results28, go_sem, c30, c31]) rfl ?_
  exact ⟨rfl, hr4, st⟩

theorem take_0 (p : Nat) (s : ByteArray) (e k n : Int) (w : World) (hk : k ≠ 1 ∧ k ≠ 2 ∧ k ≠ 3 ∧ k ≠ 4 ∧ k ≠ 5 ∧ k ≠ 6 ∧ k ≠ 7) (h : Rd w p s e) :
    Calls Try.prog 28 #[.pointer (some ⟨p, 0, none⟩), .agg #[.string s, .int .i64 e], .agg #[.int .i64 k, .int .i64 n]] w fun en w' =>
      en = .returned (.tuple #[.agg #[.string s, .int .i64 e], .bool true]) ∧ Stepped w w' p s e := by
  obtain ⟨h1, h2, h3, h4, h5, h6, h7⟩ := hk
  have b1 : (k == 1) = false := by simp [h1]
  have b2 : (k == 2) = false := by simp [h2]
  have b3 : (k == 3) = false := by simp [h3]
  have b4 : (k == 4) = false := by simp [h4]
  have b5 : (k == 5) = false := by simp [h5]
  have b6 : (k == 6) = false := by simp [h6]
  have b7 : (k == 7) = false := by simp [h7]
  clear h1 h2 h3 h4 h5 h6 h7
  go_enter Try.func28, Try.ntmps28
  go_wp2
  go_returns
  exact ⟨rfl, h.turns ((((Turns.refl (fun _ => False) w).alloc _).alloc _).alloc _) (fun h => h), (((Turns.refl _ _).alloc _).alloc _).alloc _⟩

end Go.Proofs.Ytefhhilaadmghab.oref
