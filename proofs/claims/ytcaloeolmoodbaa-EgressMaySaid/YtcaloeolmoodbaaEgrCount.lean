/-
  egress.Out: count.
-/
import Derived.Test.YtcaloeolmoodbaaEgrNext
namespace Go.Proofs.Ytcaloeolmoodbaa.egr
open Go.RowKit mem Go.Maps
open Go.Proofs.Ytcaloeolmoodbaa.itr
set_option linter.unusedVariables false

theorem Es.cr {w : World} {A : Ad} {k : Nat} {e : Eo} (h : Es w A k e) {n r : Int} (n0 : 0 ≤ n) (n1 : n ≤ 1099511627776) {w' : World} (t : Turns (· = A.o) w w') (hb : Blk w' A.o (cells ⟨e.frames, e.bytes, e.age, e.most, e.guard, n, r, e.L, e.s⟩ A) OB) : Es w' A k ⟨e.frames, e.bytes, e.age, e.most, e.guard, n, r, e.L, e.s⟩ := by
  have hc := h.cf
  exact h.self t hb rfl rfl rfl rfl rfl ⟨hc.f0, hc.f1, hc.b0, hc.b1, hc.a0, hc.a1, hc.m0, hc.m1, hc.g0, hc.g1, n0, n1⟩
/-- a sound, a picture has gone -/
def countE (e : Eo) (n : Int) (v : Bool) : Eo := if v = true then ⟨e.frames, e.bytes, e.age, e.most, e.guard, e.credit - n, 0, e.L, drr.takeS n e.s⟩ else ⟨e.frames, e.bytes, e.age, e.most, e.guard, e.credit - n, e.row + 1, e.L, e.s⟩
def FootO (A : Ad) (e : Eo) (k : Nat) : Prop := k = A.o ∨ drr.Foot A.sp A.smb e.s k
set_option maxRecDepth 100000 in
set_option maxHeartbeats 2000000 in
theorem count (A : Ad) (k : Nat) (e : Eo) (n : Int) (v : Bool) (w : World) (h : Es w A k e) (n0 : 0 ≤ n) (n1 : n ≤ e.credit) (r0 : 0 ≤ e.row) (r1 : e.row < 9223372036854775807) :
    Calls Try.prog 76 #[.pointer (some ⟨A.o, 0, none⟩), .int .i64 n, .bool v] w fun x w' => x = .returned (.tuple #[]) ∧ Es w' A k (countE e n v) ∧ Turns (FootO A e) w w' := by
  obtain ⟨⟨c0, c1, c2, c3, c4, c5, c6, c7, c8⟩, f7, f8⟩ := nine h.blk
  have k0 := h.cf.c0
  have k1 := h.cf.c1
  have s1 : IntKind.i64.wrap (e.credit - n) = e.credit - n := IntWalk.i64_in _ (by omega)
  have s2 : IntKind.i64.wrap (e.row + 1) = e.row + 1 := IntWalk.i64_in _ (by omega)
  have t1 : Turns (· = A.o) w (w.setCell ⟨A.o, 7, none⟩ (.int .i64 (e.credit - n))) := Turns.setCell (S := (· = A.o)) (Turns.refl _ w) (p := ⟨A.o, 7, none⟩) (.inl rfl) _
  have hb1 : Blk (w.setCell ⟨A.o, 7, none⟩ (.int .i64 (e.credit - n))) A.o (cells ⟨e.frames, e.bytes, e.age, e.most, e.guard, e.credit - n, e.row, e.L, e.s⟩ A) OB := h.blk.set 7 _
  have h1 := h.cr (n := e.credit - n) (r := e.row) (by omega) (by omega) t1 hb1
  have HT1 := Lib.hid t1
  have H1 := Lib.hid h1
  clear h h1 t1 hb1
  cases v with
  | false =>
    have HE : Hid (countE e n false = ⟨e.frames, e.bytes, e.age, e.most, e.guard, e.credit - n, e.row + 1, e.L, e.s⟩) := Lib.hid rfl
    go_enter Try.func76, Try.ntmps76
    go_upto_region 1 with fail
    clear c0 c1 c2 c3 c4 c5 c6 c7 c8 f7 f8
    generalize w.setCell ⟨A.o, 7, none⟩ (.int .i64 (e.credit - n)) = w1 at *
    obtain ⟨⟨c0, c1, c2, c3, c4, c5, c6, c7, c8⟩, f7, f8⟩ := nine H1.out.blk
    go_wp2
    refine bodyPost_ret (results_none rfl _ _ _) rfl ?_
    have t2 : Turns (· = A.o) w1 (w1.setCell ⟨A.o, 8, none⟩ (.int .i64 (e.row + 1))) := Turns.setCell (S := (· = A.o)) (Turns.refl _ w1) (p := ⟨A.o, 8, none⟩) (.inl rfl) _
    have hb2 : Blk (w1.setCell ⟨A.o, 8, none⟩ (.int .i64 (e.row + 1))) A.o (cells ⟨e.frames, e.bytes, e.age, e.most, e.guard, e.credit - n, e.row + 1, e.L, e.s⟩ A) OB := H1.out.blk.set 8 _
    refine ⟨rfl, by rw [HE.out]; exact H1.out.cr (by omega) (by omega) t2 hb2, ?_⟩
    exact (HT1.out.mono (fun i _ hi => .inl hi)).trans (t2.mono (fun i _ hi => .inl (.inl hi)))
  | true =>
    have HE : Hid (countE e n true = ⟨e.frames, e.bytes, e.age, e.most, e.guard, e.credit - n, 0, e.L, drr.takeS n e.s⟩) := Lib.hid rfl
    go_enter Try.func76, Try.ntmps76
    go_upto_region 1 with fail
    clear c0 c1 c2 c3 c4 c5 c6 c7 c8 f7 f8
    generalize w.setCell ⟨A.o, 7, none⟩ (.int .i64 (e.credit - n)) = w1 at *
    obtain ⟨⟨c0, c1, c2, c3, c4, c5, c6, c7, c8⟩, f7, f8⟩ := nine H1.out.blk
    obtain ⟨c, D, hc, hss⟩ := H1.out.sch
    have HSS := Lib.hid (And.intro hc hss)
    have HTK := Lib.hid (drr.take A.sp A.smb c D e.s n w1 hss (by omega))
    clear hss hc
    go_wp2_with fail
    refine HTK.out.mono ?_
    rintro x w2 ⟨rfl, hl⟩
    have HL := Lib.hid hl
    have H2 := Lib.hid (H1.out.call HSS.out.1 HSS.out.2 hl.1 hl.2 (drr.Sim.take _ _))
    clear hl HTK c0 c1 c2 c3 c4 c5 c6 c7 c8 f7 f8
    obtain ⟨⟨c0, c1, c2, c3, c4, c5, c6, c7, c8⟩, f7, f8⟩ := nine H2.out.blk
    go_wp2
    go_end0
    have t2 : Turns (· = A.o) w2 (w2.setCell ⟨A.o, 8, none⟩ (.int .i64 0)) := Turns.setCell (S := (· = A.o)) (Turns.refl _ w2) (p := ⟨A.o, 8, none⟩) (.inl rfl) _
    have hb2 : Blk (w2.setCell ⟨A.o, 8, none⟩ (.int .i64 0)) A.o (cells ⟨e.frames, e.bytes, e.age, e.most, e.guard, e.credit - n, 0, e.L, drr.takeS n e.s⟩ A) OB := H2.out.blk.set 8 _
    refine ⟨rfl, by rw [HE.out]; exact H2.out.cr (by omega) (by omega) t2 hb2, ?_⟩
    exact ((HT1.out.mono (fun i _ hi => .inl hi)).trans (HL.out.2.mono (fun i _ hi => .inl (.inr hi)))).trans (t2.mono (fun i _ hi => .inl (.inl hi)))
end Go.Proofs.Ytcaloeolmoodbaa.egr
