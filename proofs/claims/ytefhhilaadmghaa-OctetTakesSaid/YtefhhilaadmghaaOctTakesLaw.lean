/-
  OctetTakes: any bytes, read as any values.
-/
import Derived.Test.YtefhhilaadmghaaOctKinds
import Derived.Test.YtefhhilaadmghaaOctAwake
import Derived.Test.YtefhhilaadmghaaTakeRow
import Derived.Deep.DeepCutAuto
import Derived.Deep.QuietTactic
namespace Go.Proofs.Ytefhhilaadmghaa.oref
open Go.RowKit mem rd wr

def stepS (s : ByteArray) (e k n : Int) : ByteArray :=
  if k = 1 then takeS s e n else if k = 2 then takeS s e (lim n) else if k = 3 then takeS s e 1 else if k = 4 then takeS s e 2 else if k = 5 then takeS s e 4 else if k = 6 then takeS s e s.size else if k = 7 then failS s e (n % 8) else s
def stepE (s : ByteArray) (e k n : Int) : Int :=
  if k = 1 then takeE s e n else if k = 2 then takeE s e (lim n) else if k = 3 then takeE s e 1 else if k = 4 then takeE s e 2 else if k = 5 then takeE s e 4 else if k = 6 then takeE s e s.size else if k = 7 then failE e (n % 8) else e

theorem _root_.Go.Proofs.Ytefhhilaadmghaa.rd.Rd.drew {w : World} {p : Nat} {s : ByteArray} {e : Int} (h : Rd w p s e) : Rd w.drew p s e := h

theorem _root_.Go.Proofs.Ytefhhilaadmghaa.rd.Rd.alloc {w : World} {p : Nat} {s : ByteArray} {e : Int} (h : Rd w p s e) (o : Obj) : Rd (w.alloc o) p s e := Blk.alloc h o

theorem _root_.Go.Proofs.Ytefhhilaadmghaa.rd.Rd.drewN {w : World} {p : Nat} {s : ByteArray} {e : Int} (h : Rd w p s e) (n : Nat) : Rd (w.drewN n) p s e := h

theorem step_inv {s : ByteArray} {e : Int} (h : Inv s e) (k n : Int) : Inv (stepS s e k n) (stepE s e k n) := by
  unfold stepS stepE
  repeat' split
  all_goals first | exact h.take _ | exact h.fail _ | exact h
theorem step_size (s : ByteArray) (e k n : Int) : (stepS s e k n).size ≤ s.size := by
  unfold stepS
  repeat' split
  all_goals first | exact takeS_size _ _ _ | exact failS_size _ _ _ | exact Nat.le_refl _

theorem take_any (p : Nat) (s : ByteArray) (e k n : Int) (w : World) (h : Rd w p s e) (hi : Inv s e) (hs : s.size ≤ 4611686018427387904) :
    Calls Try.prog 25 #[.pointer (some ⟨p, 0, none⟩), .agg #[.string s, .int .i64 e], .agg #[.int .i64 k, .int .i64 n]] w fun en w' =>
      en = .returned (.tuple #[.agg #[.string (stepS s e k n), .int .i64 (stepE s e k n)], .bool true]) ∧ Stepped w w' p (stepS s e k n) (stepE s e k n) := by
  by_cases h1 : k = 1
  · subst h1; exact take_1 p s e n w h hi hs
  by_cases h2 : k = 2
  · subst h2; exact take_2 p s e n w h hi hs
  by_cases h3 : k = 3
  · subst h3; exact take_3 p s e n w h hi hs
  by_cases h4 : k = 4
  · subst h4; exact take_4 p s e n w h hi hs
  by_cases h5 : k = 5
  · subst h5; exact take_5 p s e n w h hi hs
  by_cases h6 : k = 6
  · subst h6; exact take_6 p s e n w h hi hs
  by_cases h7 : k = 7
  · subst h7; exact take_7 p s e n w h
  have e1 : stepS s e k n = s := by unfold stepS; simp [h1, h2, h3, h4, h5, h6, h7]
  have e2 : stepE s e k n = e := by unfold stepE; simp [h1, h2, h3, h4, h5, h6, h7]
  rw [e1, e2]
  exact take_0 p s e k n w ⟨h1, h2, h3, h4, h5, h6, h7⟩ h

/-- the two readers, side by side -/
structure Both (w0 wr : World) (P X : Nat) (s : ByteArray) (e : Int) : Prop where
  rd : Rd wr P s e
  bx : Blk wr X #[.string s, .int .i64 e] 48
  inv : Inv s e
  size : s.size ≤ 100
  bel : Below w0.heap.size w0 wr

/-- .. in the middle of a round: the reference's new state lies in a block of its own -/
structure Mid (w0 wr : World) (P X D : Nat) (s : ByteArray) (e : Int) (s1 : ByteArray) (e1 : Int) : Prop where
  rd : Rd wr P s1 e1
  bx : Blk wr X #[.string s, .int .i64 e] 48
  bd : Blk wr D #[.string s1, .int .i64 e1] 48
  bel : Below w0.heap.size w0 wr
  ne : D ≠ X

theorem midA {w wr w3 : World} {P X : Nat} {s s1 : ByteArray} {e e1 : Int} (hb : Both w wr P X s e) (h : Stepped wr.drew w3 P s1 e1) (hPX : X ≠ P := by omega) (hP : w.heap.size ≤ P := by omega) :
    Mid w (w3.alloc (.cells #[.string s1, .int .i64 e1] 48)) P X w3.heap.size s e s1 e1 := by
  have ht : Turns (· = P) wr w3 := Turns.of_drew h.2
  have hx3 := ht.blk hb.bx hPX
  have hsz := ht.size
  have hxl := hb.bx.lt
  refine ⟨h.1.alloc _, hx3.alloc _, Blk.new _ _ _, ?_, by omega⟩
  have hsz0 := hb.bel.size
  exact (hb.bel.trans (ht.below (by omega) (fun k _ hk => by omega))).alloc (by omega) _

theorem midB {w wr w3 : World} {P X : Nat} {s s1 : ByteArray} {e e1 : Int} (hb : Both w wr P X s e) (h : Stepped (wr.alloc (.cells #[.string ⟨#[]⟩, .int .i64 0] 48)).drew w3 P s1 e1) (hPX : X ≠ P := by omega) (hP : w.heap.size ≤ P := by omega) :
    Mid w ((w3.setCell ⟨wr.heap.size, 0, none⟩ (.string s1)).setCell ⟨wr.heap.size, 1, none⟩ (.int .i64 e1)) P X wr.heap.size s e s1 e1 := by
  have ht : Turns (· = P) (wr.alloc (.cells #[.string ⟨#[]⟩, .int .i64 0] 48)) w3 := Turns.of_drew h.2
  have hx3 := ht.blk (hb.bx.alloc _) hPX
  have hpl := hb.rd.lt
  have hd := ht.blk (Blk.new wr #[.string ⟨#[]⟩, .int .i64 0] 48) (show ¬ (wr.heap.size = P) by omega)
  have hsz := ht.size
  rw [World.size_alloc] at hsz
  have hxl := hb.bx.lt
  have hsz0 := hb.bel.size
  refine ⟨?_, ?_, (hd.set 0 _).set 1 _, ?_, by omega⟩
  · exact (Blk.setOther (Blk.setOther h.1 (a := ⟨wr.heap.size, 0, none⟩) (show wr.heap.size ≠ P by omega) _) (a := ⟨wr.heap.size, 1, none⟩) (show wr.heap.size ≠ P by omega) _)
  · exact ((hx3.setOther (a := ⟨wr.heap.size, 0, none⟩) (show wr.heap.size ≠ X by omega) _).setOther (a := ⟨wr.heap.size, 1, none⟩) (show wr.heap.size ≠ X by omega) _)
  · have b1 := (hb.bel.alloc (by omega) (.cells #[.string ⟨#[]⟩, .int .i64 0] 48)).trans (ht.below (B := w.heap.size) (by rw [World.size_alloc]; omega) (fun k _ hk => by omega))
    exact (b1.setCell (p := ⟨wr.heap.size, 0, none⟩) (show w.heap.size ≤ wr.heap.size by omega) _).setCell (p := ⟨wr.heap.size, 1, none⟩) (show w.heap.size ≤ wr.heap.size by omega) _

theorem ended_len (s : ByteArray) (e : Int) (h : Inv s e) : (endS s e).size = 0 := by
  unfold endS
  split
  · rename_i hlt
    have he : e = 0 := by
      apply Classical.byContradiction
      intro he
      have := h he
      subst this
      exact absurd hlt (by decide)
    unfold failS
    rw [if_pos ⟨he, by decide⟩]
    rfl
  · omega

theorem Both.drewN {w wr : World} {P X : Nat} {s : ByteArray} {e : Int} (h : Both w wr P X s e) (n : Nat) : Both w (wr.drewN n) P X s e :=
  ⟨h.rd, h.bx, h.inv, h.size, ⟨h.bel.os, h.bel.tape, h.bel.output, h.bel.size, h.bel.block⟩⟩

theorem takes_end {w wr w6 w7 : World} {X : Nat} {s : ByteArray} {e : Int} (hb : Both w wr w.heap.size X s e) (h6 : Ended wr.drew w6 w.heap.size s e) (h7 : New w6 w7) : Below w.heap.size w w7 :=
  hb.bel.trans ((((Turns.of_drew h6.2).trans (h7.mono (fun _ _ h => h.elim))).below (B := w.heap.size) hb.bel.size (fun k _ hk => by omega)))

set_option maxHeartbeats 2000000 in
theorem takes_law (s0 : ByteArray) (a : Option Addr) (n c : Nat) (z : Nat → Int × Int) (w : World) (hs0 : s0.size ≤ maxLen) (hz : args.takeRow w a n c z) :
    Calls Try.prog 8 #[.string s0, .slice a n c] w fun e w' => e = .returned (.bool true) ∧ Below w.heap.size w w' := by
  obtain ⟨hn, hok, hcell⟩ := hz
  unfold maxLen at hn hs0
  clear hok
  have HC := Lib.hid hcell
  clear hcell
  have hcs := cutS_size s0 100
  have K1 := Lib.hid (fun w => cut s0 100 (by omega) w)
  generalize cutS s0 100 = s at *
  go_enter Try.func8, Try.ntmps8
  go_wp2_with (first
    | (go_at_call 22; refine (K1.out _).mono ?_; rintro e w' ⟨rfl, rfl⟩)
    | (go_at_call 23; refine (read _ _).mono ?_; rintro e w' ⟨rfl, rfl⟩)
    | (go_at_call 24; refine (awake _).mono ?_; rintro e w1 ⟨rfl, hn1⟩))
  have hb0 : Both w w1 w.heap.size (w.heap.size + 1) s 0 := by
    refine ⟨?_, ?_, fun h => absurd rfl h, by omega, ?_⟩
    · exact Rd.turns (((Blk.new w #[.string s, .int .i64 0] 60).alloc (.cells #[.string s, .int .i64 0] 48) : Rd _ w.heap.size s 0)) hn1 (fun h => h)
    · have := Blk.new (w.alloc (.cells #[.string s, .int .i64 0] 60)) #[.string s, .int .i64 0] 48
      rw [World.size_alloc] at this
      exact hn1.blk this (fun h => h)
    · exact (((Turns.refl (fun _ => False) w).alloc _).alloc _ |>.trans (hn1.mono (fun _ _ h => h.elim))).below (Nat.le_refl _) (fun _ _ h => h.elim)
  have HB := Lib.hid hb0
  clear hb0 hn1 K1 hcs
  go_loopw [7] (fun i wr => ∃ (k : Nat) (s' : ByteArray) (e' : Int), k ≤ n ∧ i = .int .i64 k ∧ Both w wr w.heap.size (w.heap.size + 1) s' e') (fun i _ => n - (intOf i).toNat)
  case atStart => exact ⟨0, s, 0, Nat.zero_le _, rfl, HB.out⟩
  case round =>
    clear HB
    obtain ⟨k, s', e', hk, rfl, hb⟩ := hrel
    have hP := hb.rd.lt
    have hX := hb.bx.lt
    have hss := hb.size
    by_cases hlt : k < n
    · by_cases hlt2 : k < 20
      · obtain ⟨b, off, rfl, hbw, hcell⟩ := HC.out.resolve_left (by omega)
        have hc := hcell k hlt
        clear hcell
        have hc0 : wr.cell? ⟨b, off + k * 2, none⟩ = some (.int .i64 (z k).1) := (hb.bel.cell hbw).trans hc.1
        have hc1 : wr.cell? ⟨b, off + k * 2 + 1, none⟩ = some (.int .i64 (z k).2) := (hb.bel.cell hbw).trans hc.2
        have x0 : wr.cell? ⟨w.heap.size + 1, 0, none⟩ = some (.string s') := hb.bx.cell 0
        have x1 : wr.cell? ⟨w.heap.size + 1, 1, none⟩ = some (.int .i64 e') := hb.bx.cell 1
        have HT := Lib.hid (fun W (h : Rd W w.heap.size s' e') => take_any w.heap.size s' e' (z k).1 (z k).2 W h hb.inv (by omega))
        clear hc HC
        have hk1 : (k : Int) < (n : Int) := by omega
        have HBB := Lib.hid hb
        have hdX : w.heap.size + 1 < wr.heap.size := hX
        have hbr : b < wr.heap.size := by have := hb.bel.size; omega
        have HM := Lib.hid (hb.inv)
        go_upto_region 9 with fail
        go_cut [8, 9] (fun v8 v9 wx => ∃ D : Nat, v8 = .pointer (some ⟨D, 0, none⟩) ∧ v9 = .bool true ∧ Mid w wx w.heap.size (w.heap.size + 1) D s' e' (stepS s' e' (z k).1 (z k).2) (stepE s' e' (z k).1 (z k).2))
        case first =>
          go_region_with (go_at_call 25; refine (HT.out _ (by first | exact HBB.out.rd | exact HBB.out.rd.drew | exact (HBB.out.rd.alloc _).drew)).mono ?_; rintro e w3 ⟨rfl, hw3⟩; (first | (have hD := hw3.2.blk ((Blk.new wr #[.string ⟨#[]⟩, .int .i64 0] 48).drew) (show ¬ (wr.heap.size = w.heap.size) by omega); have d0 : w3.cell? ⟨wr.heap.size, 0, none⟩ = some (.string ⟨#[]⟩) := hD.cell 0; have d1 : w3.cell? ⟨wr.heap.size, 1, none⟩ = some (.int .i64 0) := hD.cell 1; have df0 := hD.free 0; have df1 := hD.free 1) | skip))
          all_goals
            go_wp2_with fail
            go_meet
            first
              | exact ⟨w3.heap.size, rfl, rfl, midA HBB.out hw3⟩
              | exact ⟨wr.heap.size, rfl, rfl, midB HBB.out hw3⟩
        case rest =>
          obtain ⟨D, rfl, rfl, hmid⟩ := hcut
          have hi2 := step_inv hb.inv (z k).1 (z k).2
          have hs2 := step_size s' e' (z k).1 (z k).2
          have HM2 := Lib.hid hmid
          clear x0 x1 hc0 hc1 HT HBB hb hmid
          generalize stepS s' e' (z k).1 (z k).2 = s2 at *
          generalize stepE s' e' (z k).1 (z k).2 = e2 at *
          have x0 : wc.cell? ⟨w.heap.size + 1, 0, none⟩ = some (.string s') := HM2.out.bx.cell 0
          have x1 : wc.cell? ⟨w.heap.size + 1, 1, none⟩ = some (.int .i64 e') := HM2.out.bx.cell 1
          have xf0 := HM2.out.bx.free 0
          have xf1 := HM2.out.bx.free 1
          have y0 : wc.cell? ⟨D, 0, none⟩ = some (.string s2) := HM2.out.bd.cell 0
          have y1 : wc.cell? ⟨D, 1, none⟩ = some (.int .i64 e2) := HM2.out.bd.cell 1
          go_wp2
          have hb2 : Both w ((wc.setCell ⟨w.heap.size + 1, 0, none⟩ (.string s2)).setCell ⟨w.heap.size + 1, 1, none⟩ (.int .i64 e2)) w.heap.size (w.heap.size + 1) s2 e2 :=
            ⟨(Blk.setOther (Blk.setOther HM2.out.rd (a := ⟨w.heap.size + 1, 0, none⟩) (show w.heap.size + 1 ≠ w.heap.size by omega) _) (a := ⟨w.heap.size + 1, 1, none⟩) (show w.heap.size + 1 ≠ w.heap.size by omega) _),
              (HM2.out.bx.set 0 _).set 1 _, hi2, by omega, (HM2.out.bel.setCell (p := ⟨w.heap.size + 1, 0, none⟩) (Nat.le_succ _) _).setCell (p := ⟨w.heap.size + 1, 1, none⟩) (Nat.le_succ _) _⟩
          clear HM2 x0 x1 xf0 xf1 y0 y1
          generalize (wc.setCell ⟨w.heap.size + 1, 0, none⟩ (.string s2)).setCell ⟨w.heap.size + 1, 1, none⟩ (.int .i64 e2) = w5 at *
          have x0 : w5.cell? ⟨w.heap.size + 1, 0, none⟩ = some (.string s2) := hb2.bx.cell 0
          have x1 : w5.cell? ⟨w.heap.size + 1, 1, none⟩ = some (.int .i64 e2) := hb2.bx.cell 1
          have HB2 := Lib.hid hb2
          clear hb2
          go_quiet ((first | (go_at_call 26; exact (err _ _ _ _ (HB2.out.rd.drewN _)).mono fun _ _ h => ⟨h.1, _, h.2.symm⟩) | (go_at_call 27; exact (len _ _ _ _ (HB2.out.rd.drewN _)).mono fun _ _ h => ⟨h.1, _, h.2.symm⟩)))
          go_wp2
          go_roundw
          case rel => exact ⟨k + 1, s2, e2, by omega, by go_num, HB2.out.drewN _⟩
          case measure => simp [intOf]; omega
      · have hk1 : (k : Int) < (n : Int) := by omega
        have x0 : wr.cell? ⟨w.heap.size + 1, 0, none⟩ = some (.string s') := hb.bx.cell 0
        have x1 : wr.cell? ⟨w.heap.size + 1, 1, none⟩ = some (.int .i64 e') := hb.bx.cell 1
        have hlen := ended_len s' e' hb.inv
        have HBB := Lib.hid hb
        clear hb HC
        go_wp2_with fail
        go_region_with (first
          | (go_at_call 28; refine (end_ _ s' e' _ (by first | exact HBB.out.rd | exact HBB.out.rd.drew)).mono ?_; rintro e w6 ⟨rfl, hw6⟩; have y0 : w6.cell? ⟨w.heap.size + 1, 0, none⟩ = some (.string s') := (hw6.2.blk HBB.out.bx (show ¬ (w.heap.size + 1 = w.heap.size) by omega)).cell 0; have y1 : w6.cell? ⟨w.heap.size + 1, 1, none⟩ = some (.int .i64 e') := (hw6.2.blk HBB.out.bx (show ¬ (w.heap.size + 1 = w.heap.size) by omega)).cell 1)
          | (go_at_call 29; refine (rend s' e' _).mono ?_; rintro e w7 ⟨rfl, hw7⟩)
          | (go_at_call 27; refine (len _ _ _ _ (hw6.1.turns hw7 (fun h => h))).mono ?_; rintro e w8 ⟨rfl, rfl⟩))
        all_goals
          go_wp2
          go_ret
          exact ⟨rfl, takes_end HBB.out hw6 hw7⟩
    · have hk1 : ¬ (k : Int) < (n : Int) := by omega
      have x0 : wr.cell? ⟨w.heap.size + 1, 0, none⟩ = some (.string s') := hb.bx.cell 0
      have x1 : wr.cell? ⟨w.heap.size + 1, 1, none⟩ = some (.int .i64 e') := hb.bx.cell 1
      have hlen := ended_len s' e' hb.inv
      have HBB := Lib.hid hb
      clear hb HC
      go_wp2_with fail
      go_region_with (first
        | (go_at_call 28; refine (end_ _ s' e' _ (by first | exact HBB.out.rd | exact HBB.out.rd.drew)).mono ?_; rintro e w6 ⟨rfl, hw6⟩; have y0 : w6.cell? ⟨w.heap.size + 1, 0, none⟩ = some (.string s') := (hw6.2.blk HBB.out.bx (show ¬ (w.heap.size + 1 = w.heap.size) by omega)).cell 0; have y1 : w6.cell? ⟨w.heap.size + 1, 1, none⟩ = some (.int .i64 e') := (hw6.2.blk HBB.out.bx (show ¬ (w.heap.size + 1 = w.heap.size) by omega)).cell 1)
        | (go_at_call 29; refine (rend s' e' _).mono ?_; rintro e w7 ⟨rfl, hw7⟩)
        | (go_at_call 27; refine (len _ _ _ _ (hw6.1.turns hw7 (fun h => h))).mono ?_; rintro e w8 ⟨rfl, rfl⟩))
      all_goals
        go_wp2
        go_ret
        exact ⟨rfl, takes_end HBB.out hw6 hw7⟩
end Go.Proofs.Ytefhhilaadmghaa.oref
