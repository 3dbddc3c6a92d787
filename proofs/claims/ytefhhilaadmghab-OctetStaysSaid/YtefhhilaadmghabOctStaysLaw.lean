/-
  OctetStays: an error persists.
-/
import Derived.Test.YtefhhilaadmghabOctTakesLaw
namespace Go.Proofs.Ytefhhilaadmghab.oref
open Go.RowKit mem rd wr
set_option linter.unusedVariables false

theorem takeE_stays (s : ByteArray) (e n : Int) (he : e ≠ 0) : takeE s e n = e := by
  unfold takeE failE
  simp [he]
theorem step_stays (s : ByteArray) (e k n : Int) (he : e ≠ 0) : stepE s e k n = e := by
  unfold stepE
  repeat' split
  all_goals first | exact takeE_stays _ _ _ he | (unfold failE; rw [if_neg he]) | rfl

set_option maxHeartbeats 2000000 in
theorem stays_law (s0 : ByteArray) (a : Option Addr) (n c : Nat) (z : Nat → Int × Int) (e0 : Int) (w : World) (hs0 : s0.size ≤ maxLen) (hz : args.takeRow w a n c z) (_ : -9223372036854775808 ≤ e0) (_ : e0 ≤ 9223372036854775807) :
    Calls Try.prog 5 #[.string s0, .slice a n c, .int .i64 e0] w fun e w' => e = .returned (.bool true) ∧ Below w.heap.size w w' := by
  obtain ⟨hn, hok, hcell⟩ := hz
  unfold maxLen at hn hs0
  clear hok
  have HC := Lib.hid hcell
  clear hcell
  have hcs := cutS_size s0 40
  have K1 := Lib.hid (fun w => cut s0 40 (by omega) w)
  generalize cutS s0 40 = s at *
  have hm := mask.mask3 e0
  obtain ⟨f, hf⟩ : ∃ f : Int, f = 1 + e0 % 8 := ⟨_, rfl⟩
  have hf0 : 1 ≤ f := by omega
  have hf1 : f ≤ 8 := by omega
  have hfe : 1 + e0 % 8 = f := hf.symm
  clear hf
  have HA := Lib.hid awake
  go_enter Try.func5, Try.ntmps5
  go_wp2_with (first
    | (go_at_call 7; refine (K1.out _).mono ?_; rintro e w' ⟨rfl, rfl⟩)
    | (go_at_call 18; refine (read _ _).mono ?_; rintro e w' ⟨rfl, rfl⟩)
    | (go_at_call 8; refine (awake _).mono ?_; rintro e w1 ⟨rfl, hn1⟩))
  have hr0 : Rd (w1.alloc (.cells #[.string s, .int .i64 0] 68)) w1.heap.size s 0 := Blk.new w1 _ _
  have t0 : New w (w1.alloc (.cells #[.string s, .int .i64 0] 68)) := hn1.alloc _
  have hw1 := hn1.size
  refine (rd.fail w1.heap.size s 0 0 _ hr0).mono ?_
  rintro e w2 ⟨rfl, hf2⟩
  obtain ⟨hr2, ht2⟩ := hf2
  rw [show failS s 0 0 = s from by unfold failS; simp, show failE 0 0 = 0 from by unfold failE; simp] at hr2
  have t2 : New w w2 := t0.trans (ht2.mono (fun k _ hk => .inr (by omega)))
  have HR2 := Lib.hid hr2
  clear hr0 t0 ht2 hr2 hn1 K1 HA
  go_wp2_with (first
    | (go_at_call 26; refine (err _ _ _ _ HR2.out).mono ?_; rintro e w' ⟨rfl, rfl⟩)
    | (go_at_call 27; refine (len _ _ _ _ HR2.out).mono ?_; rintro e w' ⟨rfl, rfl⟩))
  refine (rd.fail w1.heap.size s 0 f _ HR2.out).mono ?_
  rintro e w3 ⟨rfl, hf3⟩
  obtain ⟨hr3, ht3⟩ := hf3
  rw [show failS s 0 f = ⟨#[]⟩ from by unfold failS; rw [if_pos ⟨rfl, by omega⟩], show failE 0 f = f from by unfold failE; simp] at hr3
  have t3 : New w w3 := t2.trans (ht3.mono (fun k _ hk => .inr (by omega)))
  have hP3 := hr3.lt
  have hX0 : w1.heap.size ≠ w3.heap.size := by omega
  obtain ⟨P, hP⟩ : ∃ P, P = w1.heap.size := ⟨_, rfl⟩
  rw [← hP] at hr3 hP3 hw1 hX0 ⊢
  clear hP HR2 t2 ht3
  have hb0 : Both w (w3.alloc (.cells #[.string ⟨#[]⟩, .int .i64 f] 55)) P w3.heap.size ⟨#[]⟩ f :=
    ⟨hr3.alloc _, Blk.new _ _ _, fun _ => rfl, by show 0 ≤ 100; omega, (t3.below (Nat.le_refl _) (fun _ _ h => h.elim)).alloc (by omega) _⟩
  have HB := Lib.hid hb0
  have hXs := t3.size
  obtain ⟨X, hX⟩ : ∃ X, X = w3.heap.size := ⟨_, rfl⟩
  clear hb0 t3 hr3
  go_wp2
  rw [← hX] at HB hXs hP3 hX0 ⊢
  go_loopw [10] (fun i wr => ∃ k : Nat, k ≤ n ∧ i = .int .i64 k ∧ Both w wr P X ⟨#[]⟩ f) (fun i _ => n - (intOf i).toNat)
  case atStart => exact ⟨0, Nat.zero_le _, rfl, HB.out⟩
  case round =>
    clear HB hX
    obtain ⟨k, hk, rfl, hb⟩ := hrel
    have hPr := hb.rd.lt
    have hXr := hb.bx.lt
    by_cases hgo : k < n ∧ k < 10
    · obtain ⟨hlt, hlt2⟩ := hgo
      obtain ⟨b, off, rfl, hbw, hcell⟩ := HC.out.resolve_left (by omega)
      have hc := hcell k hlt
      clear hcell
      have hc0 : wr.cell? ⟨b, off + k * 2, none⟩ = some (.int .i64 (z k).1) := (hb.bel.cell hbw).trans hc.1
      have hc1 : wr.cell? ⟨b, off + k * 2 + 1, none⟩ = some (.int .i64 (z k).2) := (hb.bel.cell hbw).trans hc.2
      have x0 : wr.cell? ⟨X, 0, none⟩ = some (.string ⟨#[]⟩) := hb.bx.cell 0
      have x1 : wr.cell? ⟨X, 1, none⟩ = some (.int .i64 f) := hb.bx.cell 1
      have ss : stepS ⟨#[]⟩ f (z k).1 (z k).2 = ⟨#[]⟩ := (step_inv hb.inv (z k).1 (z k).2) (by rw [step_stays _ _ _ _ (by omega)]; omega)
      have se : stepE ⟨#[]⟩ f (z k).1 (z k).2 = f := step_stays _ _ _ _ (by omega)
      have HT : Hid (∀ W, Rd W P ⟨#[]⟩ f → Calls Try.prog 28 #[.pointer (some ⟨P, 0, none⟩), .agg #[.string ⟨#[]⟩, .int .i64 f], .agg #[.int .i64 (z k).1, .int .i64 (z k).2]] W fun en w' =>
          en = .returned (.tuple #[.agg #[.string ⟨#[]⟩, .int .i64 f], .bool true]) ∧ Stepped W w' P ⟨#[]⟩ f) := by
        have := fun W (h : Rd W P ⟨#[]⟩ f) => take_any P ⟨#[]⟩ f (z k).1 (z k).2 W h hb.inv (by show 0 ≤ _; omega)
        rw [ss, se] at this
        exact Lib.hid this
      clear hc HC ss se
      have hk1 : (k : Int) < (n : Int) := by omega
      have HBB := Lib.hid hb
      have hbr : b < wr.heap.size := by have := hb.bel.size; omega
      clear hb
      go_upto_region 14 with fail
      go_cut [11, 12] (fun v8 v9 wx => ∃ D : Nat, v8 = .pointer (some ⟨D, 0, none⟩) ∧ v9 = .bool true ∧ Mid w wx P X D ⟨#[]⟩ f ⟨#[]⟩ f)
      case first =>
        go_region_with (go_at_call 28; refine (HT.out _ (by first | exact HBB.out.rd | exact HBB.out.rd.drew | exact (HBB.out.rd.alloc _).drew)).mono ?_; rintro e w3 ⟨rfl, hw3⟩; (first | (have hD := hw3.2.blk ((Blk.new wr #[.string ⟨#[]⟩, .int .i64 0] 55).drew) (show ¬ (wr.heap.size = P) by omega); have d0 : w3.cell? ⟨wr.heap.size, 0, none⟩ = some (.string ⟨#[]⟩) := hD.cell 0; have d1 : w3.cell? ⟨wr.heap.size, 1, none⟩ = some (.int .i64 0) := hD.cell 1; have df0 := hD.free 0; have df1 := hD.free 1) | skip))
        all_goals
          go_wp2_with fail
          go_meet
          first
            | exact ⟨w3.heap.size, rfl, rfl, midA HBB.out hw3⟩
            | exact ⟨wr.heap.size, rfl, rfl, midB HBB.out hw3⟩
      case rest =>
        obtain ⟨D, rfl, rfl, hmid⟩ := hcut
        have HM2 := Lib.hid hmid
        have HI := Lib.hid HBB.out.inv
        clear x0 x1 hc0 hc1 HT HBB hmid
        have x0 : wc.cell? ⟨X, 0, none⟩ = some (.string ⟨#[]⟩) := HM2.out.bx.cell 0
        have x1 : wc.cell? ⟨X, 1, none⟩ = some (.int .i64 f) := HM2.out.bx.cell 1
        have xf0 := HM2.out.bx.free 0
        have xf1 := HM2.out.bx.free 1
        have y0 : wc.cell? ⟨D, 0, none⟩ = some (.string ⟨#[]⟩) := HM2.out.bd.cell 0
        have y1 : wc.cell? ⟨D, 1, none⟩ = some (.int .i64 f) := HM2.out.bd.cell 1
        go_wp2_with fail
        have hb2 : Both w ((wc.setCell ⟨X, 0, none⟩ (.string ⟨#[]⟩)).setCell ⟨X, 1, none⟩ (.int .i64 f)) P X ⟨#[]⟩ f :=
          ⟨(Blk.setOther (Blk.setOther HM2.out.rd (a := ⟨X, 0, none⟩) (show X ≠ P by omega) _) (a := ⟨X, 1, none⟩) (show X ≠ P by omega) _),
            (HM2.out.bx.set 0 _).set 1 _, HI.out, by show 0 ≤ 100; omega, (HM2.out.bel.setCell (p := ⟨X, 0, none⟩) (show w.heap.size ≤ X by omega) _).setCell (p := ⟨X, 1, none⟩) (show w.heap.size ≤ X by omega) _⟩
        clear HM2 x0 x1 xf0 xf1 y0 y1
        generalize (wc.setCell ⟨X, 0, none⟩ (.string ⟨#[]⟩)).setCell ⟨X, 1, none⟩ (.int .i64 f) = w5 at *
        have HB2 := Lib.hid hb2
        clear hb2
        go_wp2_with (first
          | (go_at_call 26; refine (err _ _ _ _ HB2.out.rd).mono ?_; rintro e w' ⟨rfl, rfl⟩)
          | (go_at_call 27; refine (len _ _ _ _ HB2.out.rd).mono ?_; rintro e w' ⟨rfl, rfl⟩))
        go_roundw
        case rel => exact ⟨k + 1, by omega, by go_num, HB2.out⟩
        case measure => simp [intOf]; omega
    · have HBB := Lib.hid hb
      have HE := Lib.hid (end_ P ⟨#[]⟩ f wr hb.rd)
      rw [show endE ⟨#[]⟩ f = f from rfl] at HE
      clear hb HC
      by_cases hlt : k < n
      all_goals
        go_wp2_with (go_at_call 24; refine HE.out.mono ?_; rintro e w6 ⟨rfl, hw6⟩)
        go_ret
        exact ⟨rfl, HBB.out.bel.trans (hw6.2.below HBB.out.bel.size (fun k _ hk => by omega))⟩
end Go.Proofs.Ytefhhilaadmghab.oref
