/-
  egress.named: items of a flow. Grant, Spend.
-/
import Derived.Test.YtcaloeolmoodbaaEgrNew
import Derived.Test.YtcaloeolmoodbaaGrow
import Derived.Deep.RegionHeld3
namespace Go.Proofs.Ytcaloeolmoodbaa.egr
open Go.RowKit mem Go.Maps
set_option linter.unusedVariables false

/-- an item that goes out -/
structure Snt where
  id : Int
  x : que.It
def Snt.cs (s : Snt) : List Value := [.int .i64 s.id, .int .i64 s.x.n, .int .i64 s.x.size, .int .i64 s.x.tick, .bool s.x.key]
def SE : Enc Snt := ⟨5, Snt.cs, fun _ => rfl, fun x u hu => by
  simp [Snt.cs] at hu
  rcases hu with rfl | rfl | rfl | rfl | rfl <;> rfl⟩
abbrev SeT : TypeId := 134
abbrev SlT : TypeId := 93
theorem infoSe : (Try.prog.info? SeT).map (fun i => (i.zero, i.size, i.bytes)) = some (some (.agg #[.int .i64 0, .int .i64 0, .int .i64 0, .int .i64 0, .bool false]), 5, 40) := by kernel_rfl
def nam (id : Int) (l : List que.It) : List Snt := l.map (fun x => ⟨id, x⟩)

set_option maxRecDepth 100000 in
set_option maxHeartbeats 2000000 in
theorem named (id : Int) (v : Value) (l : List que.It) (w : World) (h : Owns que.IE que.PT w v l) (hl : l.length ≤ 1048576) :
    Calls Try.prog 66 #[.int .i64 id, v] w fun e w' => ∃ u, e = .returned u ∧ Gr SE SeT w w' u (nam id l) := by
  obtain ⟨ao, c, rfl, hlc, hrd, _⟩ := h.form
  have HR := Lib.hid hrd
  have hlm : l.length ≤ maxLen := by unfold maxLen; omega
  clear h hrd
  go_enter Try.func66, Try.ntmps66
  go_wp2_with fail
  go_loopw [5, 10] (fun v i wr => ∃ k : Nat, k ≤ l.length ∧ i = .int .i64 k ∧ Gr SE SeT w wr v (nam id (l.take k))) (fun _ i _ => l.length - (intOf i).toNat)
  case atStart => exact ⟨0, Nat.zero_le _, rfl, Gr.nil _ _ _ _ (Turns.refl _ _)⟩
  case round =>
    obtain ⟨k, hk, rfl, hgr⟩ := hrel
    have HG := Lib.hid hgr
    clear hgr
    by_cases hlt : k < l.length
    · obtain ⟨x, hx⟩ : ∃ x, l[k]? = some x := ⟨_, List.getElem?_eq_getElem hlt⟩
      obtain ⟨g, rfl, hb, hc⟩ := HR.out.resolve_left (fun e => by rw [e] at hlt; exact absurd hlt (Nat.not_lt_zero _))
      have hcc : ∀ (j : Nat) (y : Value), x.cs[j]? = some y → wr.cell? ⟨g, k * 4 + j, none⟩ = some y := fun j y hy => (HG.out.n.cell (a := ⟨g, k * 4 + j, none⟩) hb (fun h => h)).trans (hc k x hx j y hy)
      have d0 : wr.cell? ⟨g, k * 4, none⟩ = _ := hcc 0 _ rfl
      have d1 := hcc 1 _ rfl
      have d2 := hcc 2 _ rfl
      have d3 := hcc 3 _ rfl
      have HTK : Hid (nam id (l.take (k + 1)) = nam id (l.take k) ++ [⟨id, x⟩]) := Lib.hid (by rw [List.take_add_one, hx]; simp [nam])
      have hlen : (nam id (l.take k)).length ≤ 1048575 := by unfold nam; rw [List.length_map, List.length_take]; omega
      clear hc hx hb hcc
      generalize nam id (l.take k) = S at *
      obtain ⟨xn, xs, xt, xk⟩ := x
      dsimp only at *
      have BP : Hid (Blk (wr.alloc (.cells #[.int .i64 xn, .int .i64 xs, .int .i64 xt, .bool xk] que.PT)) wr.heap.size #[.int .i64 xn, .int .i64 xs, .int .i64 xt, .bool xk] que.PT) := Lib.hid (Blk.new _ _ _)
      have HG2 : Hid (Gr SE SeT w (wr.alloc (.cells #[.int .i64 xn, .int .i64 xs, .int .i64 xt, .bool xk] que.PT)) u5 S) := Lib.hid (HG.out.later ((Turns.refl _ _).alloc _))
      clear HG
      go_upto_region 5 with fail
      refine (show Code.wp _ _ _ _ (wr.alloc (.cells #[.int .i64 xn, .int .i64 xs, .int .i64 xt, .bool xk] que.PT)) from ?_)
      generalize wr.alloc (.cells #[.int .i64 xn, .int .i64 xs, .int .i64 xt, .bool xk] que.PT) = w2 at *
      generalize wr.heap.size = pp at *
      clear d0 d1 d2 d3
      obtain ⟨⟨x0, x1, x2, x3⟩, _⟩ := que.four BP.out
      go_wp2_with (at_builtin; refine wpList_append_one (E := SE) Try.underlying93 infoSe rfl (by decide) (by decide) rfl _ _ rfl _ S ⟨id, ⟨xn, xs, xt, xk⟩⟩ rfl (HG2.out.own.turns (S := fun _ => False) ((Turns.refl _ _).alloc _) (fun _ _ h => h)) w2.heap.size rfl (heap_alloc_new w2 _) (by omega) ?_; intro v4 w4 hown4 hgrow4 hat4)
      have HG4 := Lib.hid (HG2.out.push hown4 hgrow4 hat4)
      clear hown4 hgrow4 hat4 HG2 BP x0 x1 x2 x3
      go_roundw
      case rel => exact ⟨k + 1, by omega, by go_num, by rw [HTK.out]; exact HG4.out⟩
      case measure => simp [intOf]; omega
    · obtain rfl : k = l.length := by omega
      rw [List.take_length] at HG
      go_wp2
      go_ret
      exact ⟨u5, rfl, HG.out⟩

set_option maxRecDepth 100000 in
set_option maxHeartbeats 2000000 in
theorem spend (A : Ad) (k : Nat) (e : Eo) (n : Int) (w : World) (h : Es w A k e) (h0 : 0 ≤ n) (h1 : n ≤ e.credit) :
    Calls Try.prog 42 #[.pointer (some ⟨A.o, 0, none⟩), .int .i64 n] w fun x w' => x = .returned (.bool true) ∧ Es w' A k ⟨e.frames, e.bytes, e.age, e.most, e.guard, e.credit - n, e.row, e.L, e.s⟩ ∧ Turns (· = A.o) w w' := by
  obtain ⟨⟨c0, c1, c2, c3, c4, c5, c6, c7, c8⟩, f7, f8⟩ := nine h.blk
  have d1 : decide (n < 0) = false := decide_eq_false (by omega)
  have d2 : decide (e.credit < n) = false := decide_eq_false (by omega)
  have k0 := h.cf.c0
  have k1 := h.cf.c1
  have HH := Lib.hid h
  have hb : Blk (w.setCell ⟨A.o, 7, none⟩ (.int .i64 (e.credit - n))) A.o (cells ⟨e.frames, e.bytes, e.age, e.most, e.guard, e.credit - n, e.row, e.L, e.s⟩ A) OB := h.blk.set 7 _
  have HB := Lib.hid hb
  clear h hb
  go_enter Try.func42, Try.ntmps42
  go_wp2
  go_ret
  have t : Turns (· = A.o) w (w.setCell ⟨A.o, 7, none⟩ (.int .i64 (e.credit - n))) := Turns.setCell (S := (· = A.o)) (Turns.refl _ w) (p := ⟨A.o, 7, none⟩) (.inl rfl) _
  have hc := HH.out.cf
  refine ⟨rfl, HH.out.self t HB.out rfl rfl rfl rfl rfl ⟨hc.f0, hc.f1, hc.b0, hc.b1, hc.a0, hc.a1, hc.m0, hc.m1, hc.g0, hc.g1, ?_, ?_⟩, t⟩
  · show 0 ≤ e.credit - n; omega
  · show e.credit - n ≤ _; omega
theorem spend_no (A : Ad) (k : Nat) (e : Eo) (n : Int) (w : World) (h : Es w A k e) (h0 : n < 0 ∨ e.credit < n) :
    Calls Try.prog 42 #[.pointer (some ⟨A.o, 0, none⟩), .int .i64 n] w fun x w' => x = .returned (.bool false) ∧ w' = w := by
  obtain ⟨⟨c0, c1, c2, c3, c4, c5, c6, c7, c8⟩, f7, f8⟩ := nine h.blk
  clear h
  by_cases hn : n < 0
  · have d1 : decide (n < 0) = true := decide_eq_true hn
    clear h0 hn
    go_enter Try.func42, Try.ntmps42
    go_wp2
    go_ret
    exact ⟨rfl, rfl⟩
  · have d1 : decide (n < 0) = false := decide_eq_false hn
    have d2 : decide (e.credit < n) = true := decide_eq_true (h0.resolve_left hn)
    clear h0 hn
    go_enter Try.func42, Try.ntmps42
    go_wp2
    go_ret
    exact ⟨rfl, rfl⟩
/-- the credit behind Grant -/
def grantI (c n : Int) : Int := c + min (max n 0) (1099511627776 - c)
set_option maxRecDepth 100000 in
set_option maxHeartbeats 2000000 in
theorem grant (A : Ad) (k : Nat) (e : Eo) (n : Int) (w : World) (h : Es w A k e) (n0 : -9223372036854775808 ≤ n) (n1 : n ≤ 9223372036854775807) :
    Calls Try.prog 58 #[.pointer (some ⟨A.o, 0, none⟩), .int .i64 n] w fun x w' => x = .returned (.tuple #[]) ∧ Es w' A k ⟨e.frames, e.bytes, e.age, e.most, e.guard, grantI e.credit n, e.row, e.L, e.s⟩ ∧ Turns (· = A.o) w w' := by
  obtain ⟨⟨c0, c1, c2, c3, c4, c5, c6, c7, c8⟩, f7, f8⟩ := nine h.blk
  have k0 := h.cf.c0
  have k1 := h.cf.c1
  have HH := Lib.hid h
  have s1 : IntKind.i64.wrap (1099511627776 - e.credit) = 1099511627776 - e.credit := IntWalk.i64_in _ (by omega)
  have s2 : IntKind.i64.wrap (e.credit + min (max n 0) (1099511627776 - e.credit)) = grantI e.credit n := IntWalk.i64_in _ (by omega)
  clear h
  go_enter Try.func58, Try.ntmps58
  go_region
  go_end0
  have hb : Blk ((w.setCell ⟨A.o, 7, none⟩ (.int .i64 (grantI e.credit n))).drew) A.o (cells ⟨e.frames, e.bytes, e.age, e.most, e.guard, grantI e.credit n, e.row, e.L, e.s⟩ A) OB := HH.out.blk.set 7 _
  have t : Turns (· = A.o) w ((w.setCell ⟨A.o, 7, none⟩ (.int .i64 (grantI e.credit n))).drew) := (Turns.setCell (S := (· = A.o)) (Turns.refl _ w) (p := ⟨A.o, 7, none⟩) (.inl rfl) _).drew
  have hc := HH.out.cf
  refine ⟨rfl, HH.out.self t hb rfl rfl rfl rfl rfl ⟨hc.f0, hc.f1, hc.b0, hc.b1, hc.a0, hc.a1, hc.m0, hc.m1, hc.g0, hc.g1, ?_, ?_⟩, t⟩
  · show 0 ≤ grantI e.credit n; unfold grantI; omega
  · show grantI e.credit n ≤ _; unfold grantI; omega
end Go.Proofs.Ytcaloeolmoodbaa.egr
