/-
  A maker's take, lose, continues.
-/
import Derived.Test.YtmfknefihjjgoaaFrmGet
import Derived.Deep.RegionWith
namespace Go.Proofs.Ytmfknefihjjgoaa.frm
open Go.RowKit mem
set_option linter.unusedVariables false

theorem Mk.drew {w : World} {p : Nat} {v : Value} {s : Q} (h : Mk w p v s) : Mk w.drew p v s := h
theorem Mk.alloc {w : World} {p : Nat} {v : Value} {s : Q} (h : Mk w p v s) (o : Obj) : Mk (w.alloc o) p v s :=
  h.turns ((Turns.refl (fun _ => False) w).alloc o) (fun h => h) (fun _ _ h => h)

theorem row_self {w w' : World} {p : Nat} {v : Value} {l : List U} (h : Row w v l) (hv : v.ownBlock ≠ some p) (ht : Turns (· = p) w w') : Row w' v l :=
  h.turns ht (fun g hg hp => hv (by rw [hg, hp]))

/-- what 'take' leaves -/
def Took (w w' : World) (p : Nat) (v : Value) (s : Q) : Prop :=
  Turns (· = p) w w' ∧ Mk w' p (.slice none 0 0) { s with o := [] } ∧ Row w' v s.o

theorem takeC (p : Nat) (v : Value) (s : Q) (w : World) (h : Mk w p v s) :
    Calls Try.prog 27 #[.pointer (some ⟨p, 0, none⟩)] w fun e w' => e = .returned (.agg #[v]) ∧ Took w w' p v s := by
  have c4 := h.1.cell 4
  have f4 := h.1.free 4
  have hlt := h.lt
  obtain ⟨ao, c, hv, _⟩ := h.2.1.form
  have hend : ∀ w', Turns (· = p) w w' → Blk w' p (mcs { s with o := [] } (.slice none 0 0)) 69 → Took w w' p v s := fun w' ht hb =>
    ⟨ht, ⟨hb, Row.nil _, by simp [Value.ownBlock]⟩, row_self h.2.1 h.2.2 ht⟩
  have hb0 : Blk w p (mcs s v) 69 := h.1
  subst hv
  have HE := Lib.hid hend
  have HB := Lib.hid hb0
  clear hend hb0 h
  generalize s.o.length = n at *
  go_enter Try.func27, Try.ntmps27
  go_wp2
  go_returns
  refine ⟨rfl, HE.out _ ?_ ?_⟩
  · (repeat (first | (refine Turns.setCell ?_ (by first | exact .inl rfl | exact .inr (by simp)) _) | (refine Turns.alloc ?_ _) | (refine Turns.drew ?_))); exact Turns.refl _ _
  · exact ((HB.out.set 4 _).alloc _).alloc _

theorem field_units (v : Value) (w : World) : (Instr.field 34 (.agg #[v]) 0).run Try.prog w = .ok v w := by kernel_rfl

/-- what 'lose' leaves -/
def Lost (w w' : World) (p : Nat) (s : Q) : Prop :=
  Turns (· = p) w w' ∧ Mk w' p (.slice none 0 0) { s with o := [], lo := s.lo + s.o.length }

theorem loseC (p : Nat) (v : Value) (s : Q) (w : World) (h : Mk w p v s) (hl : s.o.length ≤ 1000000) (h0 : 0 ≤ s.lo) (h1 : s.lo ≤ 1000000000) :
    Calls Try.prog 26 #[.pointer (some ⟨p, 0, none⟩)] w fun e w' => e = .returned (.tuple #[]) ∧ Lost w w' p s := by
  have c6 := h.1.cell 6
  have hform := h.2.1.form
  obtain ⟨ao, c, hv, hx⟩ := hform
  subst hv
  clear hx
  have HM := Lib.hid h
  clear h
  have s1 : IntKind.i64.wrap (s.lo + s.o.length) = s.lo + s.o.length := IntWalk.i64_in _ (by omega)
  have HK : Hid (∀ w', Mk w' p (.slice ao s.o.length c) s → Calls Try.prog 27 #[.pointer (some ⟨p, 0, none⟩)] w' fun e w2 => e = .returned (.agg #[.slice ao s.o.length c]) ∧ Turns (· = p) w' w2 ∧ Mk w2 p (.slice none 0 0) { s with o := [] } ∧ w2.cell? ⟨p, 6, none⟩ = some (.int .i64 s.lo) ∧ w2.frozen? ⟨p, 6, none⟩ = false) :=
    Lib.hid (fun w' h => (takeC p _ s w' h).mono (fun e w2 h => ⟨h.1, h.2.1, h.2.2.1, h.2.2.1.1.cell 6, h.2.2.1.1.free 6⟩))
  have hF := field_units
  go_enter Try.func26, Try.ntmps26
  go_region_with (go_at_call 27; (with_reducible refine (HK.out _ (by first | exact HM.out | exact HM.out.drew)).mono ?_); rintro e w3 ⟨rfl, ht, hm, d6, e6⟩)
  all_goals
    go_end0
    exact ⟨rfl, (Turns.of_drew ht).setCell (.inl rfl) _, hm.1.set 6 _, Row.nil _, by simp [Value.ownBlock]⟩

theorem ret_bool {a b : Bool} (h : a = b) : Ending.returned (.bool a) = Ending.returned (.bool b) := by rw [h]

def contB (s : Q) (u : U) : Bool :=
  match s.o.getLast? with
  | none => false
  | some y => !u.st && (decide (y.a + 1 = u.a) && decide (y.t = u.t))

set_option maxHeartbeats 2000000 in
theorem contC (p : Nat) (v : Value) (s : Q) (u : U) (w : World) (h : Mk w p v s) (hl : s.o.length ≤ 1000000) (hu : u.ok) (ho : ∀ y ∈ s.o, y.ok) :
    Calls Try.prog 25 #[.pointer (some ⟨p, 0, none⟩), .agg u.cs.toArray] w fun e w' => e = .returned (.bool (contB s u)) ∧ New w w' := by
  have HK : Hid (∀ w', Mk w' p v s → Calls Try.prog 12 #[.pointer (some ⟨p, 0, none⟩)] w' fun e w2 => e = .returned (.int .i64 s.o.length) ∧ w' = w2) := Lib.hid (fun w' h => openC p v s w' h)
  have HN : Hid (New w (w.alloc (.cells u.cs.toArray 43))) := Lib.hid ((Turns.refl _ _).alloc _)
  have hma : Mk (w.alloc (.cells u.cs.toArray 43)) p v s := h.alloc _
  have ub := Blk.new w u.cs.toArray 43
  have b0 := ub.cell 0
  have b1 := ub.cell 1
  have b3 := ub.cell 3
  obtain ⟨a0, a1, t0, t1, _, _, _⟩ := hu
  obtain ⟨ua, ut, um, ust, uk, ux, utk⟩ := u
  simp only [U.cs] at *
  rcases List.eq_nil_or_concat s.o with h0 | ⟨l, y, hly⟩
  · have HB : Hid (contB s ⟨ua, ut, um, ust, uk, ux, utk⟩ = false) := Lib.hid (by simp [contB, h0])
    rw [HB.out]
    rw [h0] at HK
    simp only [List.length_nil] at HK
    have HM := Lib.hid hma
    clear h hma hl ho h0 ub HB
    go_enter Try.func25, Try.ntmps25
    go_wp2_with fail
    generalize (w.alloc (.cells #[.int .i64 ua, .int .i64 ut, .bool um, .bool ust, .bool uk, .string ux, .int .i64 utk] 43)) = w1 at *
    refine (HK.out _ HM.out).mono ?_
    rintro e w2 ⟨rfl, rfl⟩
    go_wp2
    go_ret
    exact ⟨rfl, HN.out⟩
  · have hlen : s.o.length = l.length + 1 := by rw [hly]; simp
    have HB : Hid (contB s ⟨ua, ut, um, ust, uk, ux, utk⟩ = (!ust && (decide (y.a + 1 = ua) && decide (y.t = ut)))) := Lib.hid (by simp [contB, hly])
    have hyo : y.ok := ho y (by rw [hly]; simp)
    obtain ⟨ya0, ya1, yt0, yt1, _, _, _⟩ := hyo
    have hyat : s.o[l.length]? = some y := by rw [hly]; simp
    have hwb := w.size_alloc (.cells #[.int .i64 ua, .int .i64 ut, .bool um, .bool ust, .bool uk, .string ux, .int .i64 utk] 43)
    have hform := hma.2.1.form
    obtain ⟨ao, c, rfl, hf⟩ := hform
    obtain ⟨g, rfl, _, hg, hc⟩ := hf.resolve_left (by intro h0; rw [h0] at hlen; simp at hlen)
    obtain ⟨k0, k1, k2, k3, k4, k5, k6⟩ := hc _ _ hyat
    have c4 := hma.1.cell 4
    rw [hlen] at c4 hl HK
    rw [hlen] at hma
    rw [HB.out]
    have hpl := hma.lt
    have HU : Hid (w.heap.size < (w.alloc (.cells #[.int .i64 ua, .int .i64 ut, .bool um, .bool ust, .bool uk, .string ux, .int .i64 utk] 43)).heap.size) := Lib.hid ub.lt
    obtain ⟨m, hm⟩ : ∃ m, m = l.length + 1 := ⟨_, rfl⟩
    rw [← hm] at hma c4 hl HK
    have HM := Lib.hid hma
    have e1 : (m : Int) - 1 = (l.length : Int) := by omega
    have e2 : (l.length : Int) < (m : Int) := by omega
    have e3 : 0 ≤ (l.length : Int) := by omega
    have e4 : (m : Int) ≠ 0 := by omega
    have s2 : IntKind.i64.wrap (l.length : Int) = l.length := IntWalk.i64_in _ (by omega)
    have s3 : IntKind.i64.wrap ((m : Int) - 1) = l.length := by rw [e1]; exact s2
    have e5 : l.length < m := by omega
    clear hf hc hly hyat hlen h hma ho ub HB hwb hm
    obtain ⟨ya, yt, ym, yst, yk, yx, ytk⟩ := y
    simp only at *
    generalize l.length = n at *
    cases ust
    · go_enter Try.func25, Try.ntmps25
      go_wp2_with fail
      generalize (w.alloc (.cells #[.int .i64 ua, .int .i64 ut, .bool um, .bool false, .bool uk, .string ux, .int .i64 utk] 43)) = w1 at *
      generalize w.heap.size = pu at *
      refine (HK.out _ HM.out).mono ?_
      rintro e w2 ⟨rfl, rfl⟩
      go_wp2_with fail
      have hpu := HU.out
      go_cut [5] (fun v5 wx => ∃ B, v5 = .pointer (some ⟨B, 0, none⟩) ∧ New w1 wx ∧ wx.cell? ⟨B, 0, none⟩ = some (.int .i64 ya) ∧ wx.cell? ⟨B, 1, none⟩ = some (.int .i64 yt))
      case first =>
        go_region_with (go_at_call 12; (with_reducible refine (HK.out _ (by first | exact HM.out | exact HM.out.drew | exact (HM.out.alloc _) | exact (HM.out.drew.alloc _) | exact (HM.out.alloc _).drew)).mono ?_); rintro e w3 ⟨rfl, rfl⟩)
        all_goals
          go_wp2_with fail
          go_meet
          case rel => exact ⟨w1.heap.size, rfl, (by (repeat (first | (refine Turns.alloc ?_ _) | (refine Turns.drew ?_))); exact Turns.refl _ _), (Blk.new w1 #[.int .i64 ya, .int .i64 yt, .bool ym, .bool yst, .bool yk, .string yx, .int .i64 ytk] _).cell 0, (Blk.new w1 #[.int .i64 ya, .int .i64 yt, .bool ym, .bool yst, .bool yk, .string yx, .int .i64 ytk] _).cell 1⟩
      case rest =>
        obtain ⟨B, rfl, hnw, y0, y1⟩ := hcut
        have z0 := (hnw.cell (a := ⟨pu, 0, none⟩) hpu (fun h => h)).trans b0
        have z1 := (hnw.cell (a := ⟨pu, 1, none⟩) hpu (fun h => h)).trans b1
        have z3 := (hnw.cell (a := ⟨pu, 3, none⟩) hpu (fun h => h)).trans b3
        have n1 : New w wc := HN.out.trans (hnw.mono (fun _ _ h => h.elim))
        clear HK HM k0 k1 k2 k3 k4 k5 k6 b0 b1 b3 hnw c4 HN
        by_cases q1 : ya + 1 = ua <;> by_cases q2 : yt = ut
        all_goals
          go_wp2
          all_goals
            go_ret
            refine ⟨ret_bool ?_, n1⟩
            (try simp [q1, q2])
            all_goals (try omega)
    · go_enter Try.func25, Try.ntmps25
      go_wp2_with fail
      generalize (w.alloc (.cells #[.int .i64 ua, .int .i64 ut, .bool um, .bool true, .bool uk, .string ux, .int .i64 utk] 43)) = w1 at *
      generalize w.heap.size = pu at *
      refine (HK.out _ HM.out).mono ?_
      rintro e w2 ⟨rfl, rfl⟩
      go_wp2
      go_ret
      exact ⟨rfl, HN.out⟩
end Go.Proofs.Ytmfknefihjjgoaa.frm
