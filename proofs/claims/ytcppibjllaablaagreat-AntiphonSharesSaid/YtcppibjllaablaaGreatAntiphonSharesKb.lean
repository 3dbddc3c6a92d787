/-
  Parts of the proof, one behind the other.
-/
import Derived.Deep.RegionHeld3
import Derived.BigQuiet
import Derived.Deep.DeepCutAuto
import Derived.Test.YtcppibjllaablaaGreatTopLive
import Derived.Test.YtcppibjllaablaaGreatArgs
import Derived.Test.YtcppibjllaablaaGreatMask
import Derived.Test.YtcppibjllaablaaGreatAntiphonSharesKa
/-
  egress.named: items of a flow. Grant, Spend.
-/
namespace Go.Proofs.YtcppibjllaablaaGreat.egr
open Go.RowKit mem Go.Maps
set_option linter.unusedVariables false

/-- an item that goes out -/
structure Snt where
  id : Int
  x : que.It
def Snt.cs (s : Snt) : List Value := [.int .i64 s.id, .int .i64 s.x.n, .int .i64 s.x.size, .int .i64 s.x.tick, .bool s.x.key]
def SE : Enc Snt := ⟨5, Snt.cs, fun _ => rfl, fun x u hu => by
  simp [Snt.cs] at hu
  rcases hu with rfl | rfl | rfl | rfl | rfl <;> rfl⟩
abbrev SeT : TypeId := 69
abbrev SlT : TypeId := 55
theorem infoSe : (Tryz.prog.info? SeT).map (fun i => (i.zero, i.size, i.bytes)) = some (some (.agg #[.int .i64 0, .int .i64 0, .int .i64 0, .int .i64 0, .bool false]), 5, 40) := by kernel_rfl
def nam (id : Int) (l : List que.It) : List Snt := l.map (fun x => ⟨id, x⟩)

set_option maxRecDepth 100000 in
set_option maxHeartbeats 2000000 in
theorem named (id : Int) (v : Value) (l : List que.It) (w : World) (h : Owns que.IE que.PT w v l) (hl : l.length ≤ 1048576) :
    Calls Tryz.prog 40 #[.int .i64 id, v] w fun e w' => ∃ u, e = .returned u ∧ Gr SE SeT w w' u (nam id l) := by
  obtain ⟨ao, c, rfl, hlc, hrd, _⟩ := h.form
  have HR := Lib.hid hrd
  have hlm : l.length ≤ maxLen := by unfold maxLen; omega
  clear h hrd
  go_enter Tryz.func40, Tryz.ntmps40
  go_wp2_with fail
  go_loopw [5, 10] (fun v i wr => ∃ k : Nat, k ≤ l.length ∧ i = .int .i64 k ∧ Gr SE SeT w wr v (nam id (l.take k))) (fun _ i _ => l.length - (intOf i).toNat)
  case atStart => exact ⟨0, Nat.zero_le _, rfl, Gr.nil _ _ _ _ (Turns.refl _ _)⟩
  case round =>
    obtain ⟨k, hk, rfl, hgr⟩ := hrel
    have HG := Lib.hid hgr
    clear hgr
    by_cases hlt : k < l.length
    · obtain ⟨x, hx⟩ : ∃ x, l[k]? = some x := ⟨_, List.getElem?_eq_getElem hlt⟩
      obtain ⟨g, rfl, hb, hc⟩ := HR.out.resolve_left (fun e => by rw [e] at hlt; exact absurd hlt (Nat.not_lt_zero _))
      have hcc : ∀ (j : Nat) (y : Value), x.cs[j]? = some y → wr.cell? ⟨g, k * 4 + j, none⟩ = some y := fun j y hy => (HG.out.n.cell (a := ⟨g, k * 4 + j, none⟩) hb (fun h => h)).trans (hc k x hx j y hy)
      have d0 : wr.cell? ⟨g, k * 4, none⟩ = _ := hcc 0 _ rfl
      have d1 := hcc 1 _ rfl
      have d2 := hcc 2 _ rfl
      have d3 := hcc 3 _ rfl
      have HTK : Hid (nam id (l.take (k + 1)) = nam id (l.take k) ++ [⟨id, x⟩]) := Lib.hid (by rw [List.take_add_one, hx]; simp [nam])
      have hlen : (nam id (l.take k)).length ≤ 1048575 := by unfold nam; rw [List.length_map, List.length_take]; omega
      clear hc hx hb hcc
      generalize nam id (l.take k) = S at *
      obtain ⟨xn, xs, xt, xk⟩ := x
      dsimp only at *
      have BP : Hid (Blk (wr.alloc (.cells #[.int .i64 xn, .int .i64 xs, .int .i64 xt, .bool xk] que.PT)) wr.heap.size #[.int .i64 xn, .int .i64 xs, .int .i64 xt, .bool xk] que.PT) := Lib.hid (Blk.new _ _ _)
      have HG2 : Hid (Gr SE SeT w (wr.alloc (.cells #[.int .i64 xn, .int .i64 xs, .int .i64 xt, .bool xk] que.PT)) u5 S) := Lib.hid (HG.out.later ((Turns.refl _ _).alloc _))
      clear HG
      go_upto_region 5 with fail
      refine (show Code.wp _ _ _ _ (wr.alloc (.cells #[.int .i64 xn, .int .i64 xs, .int .i64 xt, .bool xk] que.PT)) from ?_)
      generalize wr.alloc (.cells #[.int .i64 xn, .int .i64 xs, .int .i64 xt, .bool xk] que.PT) = w2 at *
      generalize wr.heap.size = pp at *
      clear d0 d1 d2 d3
      obtain ⟨⟨x0, x1, x2, x3⟩, _⟩ := que.four BP.out
      go_wp2_with (at_builtin; refine wpList_append_one (E := SE) Tryz.underlying55 infoSe rfl (by decide) (by decide) rfl _ _ rfl _ S ⟨id, ⟨xn, xs, xt, xk⟩⟩ rfl (HG2.out.own.turns (S := fun _ => False) ((Turns.refl _ _).alloc _) (fun _ _ h => h)) w2.heap.size rfl (heap_alloc_new w2 _) (by omega) ?_; intro v4 w4 hown4 hgrow4 hat4)
      have HG4 := Lib.hid (HG2.out.push hown4 hgrow4 hat4)
      clear hown4 hgrow4 hat4 HG2 BP x0 x1 x2 x3
      go_roundw
      case rel => exact ⟨k + 1, by omega, by go_num, by rw [HTK.out]; exact HG4.out⟩
      case measure => simp [intOf]; omega
    · obtain rfl : k = l.length := by omega
      rw [List.take_length] at HG
      go_wp2
      go_ret
      exact ⟨u5, rfl, HG.out⟩

set_option maxRecDepth 100000 in
set_option maxHeartbeats 2000000 in
theorem spend (A : Ad) (k : Nat) (e : Eo) (n : Int) (w : World) (h : Es w A k e) (h0 : 0 ≤ n) (h1 : n ≤ e.credit) :
    Calls Tryz.prog 23 #[.pointer (some ⟨A.o, 0, none⟩), .int .i64 n] w fun x w' => x = .returned (.bool true) ∧ Es w' A k ⟨e.frames, e.bytes, e.age, e.most, e.guard, e.credit - n, e.row, e.L, e.s⟩ ∧ Turns (· = A.o) w w' := by
  obtain ⟨⟨c0, c1, c2, c3, c4, c5, c6, c7, c8⟩, f7, f8⟩ := nine h.blk
  have d1 : decide (n < 0) = false := decide_eq_false (by omega)
  have d2 : decide (e.credit < n) = false := decide_eq_false (by omega)
  have k0 := h.cf.c0
  have k1 := h.cf.c1
  have HH := Lib.hid h
  have hb : Blk (w.setCell ⟨A.o, 7, none⟩ (.int .i64 (e.credit - n))) A.o (cells ⟨e.frames, e.bytes, e.age, e.most, e.guard, e.credit - n, e.row, e.L, e.s⟩ A) OB := h.blk.set 7 _
  have HB := Lib.hid hb
  clear h hb
  go_enter Tryz.func23, Tryz.ntmps23
  go_wp2
  go_ret
  have t : Turns (· = A.o) w (w.setCell ⟨A.o, 7, none⟩ (.int .i64 (e.credit - n))) := Turns.setCell (S := (· = A.o)) (Turns.refl _ w) (p := ⟨A.o, 7, none⟩) (.inl rfl) _
  have hc := HH.out.cf
  refine ⟨rfl, HH.out.self t HB.out rfl rfl rfl rfl rfl ⟨hc.f0, hc.f1, hc.b0, hc.b1, hc.a0, hc.a1, hc.m0, hc.m1, hc.g0, hc.g1, ?_, ?_⟩, t⟩
  · show 0 ≤ e.credit - n; omega
  · show e.credit - n ≤ _; omega
theorem spend_no (A : Ad) (k : Nat) (e : Eo) (n : Int) (w : World) (h : Es w A k e) (h0 : n < 0 ∨ e.credit < n) :
    Calls Tryz.prog 23 #[.pointer (some ⟨A.o, 0, none⟩), .int .i64 n] w fun x w' => x = .returned (.bool false) ∧ w' = w := by
  obtain ⟨⟨c0, c1, c2, c3, c4, c5, c6, c7, c8⟩, f7, f8⟩ := nine h.blk
  clear h
  by_cases hn : n < 0
  · have d1 : decide (n < 0) = true := decide_eq_true hn
    clear h0 hn
    go_enter Tryz.func23, Tryz.ntmps23
    go_wp2
    go_ret
    exact ⟨rfl, rfl⟩
  · have d1 : decide (n < 0) = false := decide_eq_false hn
    have d2 : decide (e.credit < n) = true := decide_eq_true (h0.resolve_left hn)
    clear h0 hn
    go_enter Tryz.func23, Tryz.ntmps23
    go_wp2
    go_ret
    exact ⟨rfl, rfl⟩
/-- the credit behind Grant -/
def grantI (c n : Int) : Int := c + min (max n 0) (1099511627776 - c)
set_option maxRecDepth 100000 in
set_option maxHeartbeats 2000000 in
theorem grant (A : Ad) (k : Nat) (e : Eo) (n : Int) (w : World) (h : Es w A k e) (n0 : -9223372036854775808 ≤ n) (n1 : n ≤ 9223372036854775807) :
    Calls Tryz.prog 10 #[.pointer (some ⟨A.o, 0, none⟩), .int .i64 n] w fun x w' => x = .returned (.tuple #[]) ∧ Es w' A k ⟨e.frames, e.bytes, e.age, e.most, e.guard, grantI e.credit n, e.row, e.L, e.s⟩ ∧ Turns (· = A.o) w w' := by
  obtain ⟨⟨c0, c1, c2, c3, c4, c5, c6, c7, c8⟩, f7, f8⟩ := nine h.blk
  have k0 := h.cf.c0
  have k1 := h.cf.c1
  have HH := Lib.hid h
  have s1 : IntKind.i64.wrap (1099511627776 - e.credit) = 1099511627776 - e.credit := IntWalk.i64_in _ (by omega)
  have s2 : IntKind.i64.wrap (e.credit + min (max n 0) (1099511627776 - e.credit)) = grantI e.credit n := IntWalk.i64_in _ (by omega)
  clear h
  go_enter Tryz.func10, Tryz.ntmps10
  go_region
  go_end0
  have hb : Blk ((w.setCell ⟨A.o, 7, none⟩ (.int .i64 (grantI e.credit n))).drew) A.o (cells ⟨e.frames, e.bytes, e.age, e.most, e.guard, grantI e.credit n, e.row, e.L, e.s⟩ A) OB := HH.out.blk.set 7 _
  have t : Turns (· = A.o) w ((w.setCell ⟨A.o, 7, none⟩ (.int .i64 (grantI e.credit n))).drew) := (Turns.setCell (S := (· = A.o)) (Turns.refl _ w) (p := ⟨A.o, 7, none⟩) (.inl rfl) _).drew
  have hc := HH.out.cf
  refine ⟨rfl, HH.out.self t hb rfl rfl rfl rfl rfl ⟨hc.f0, hc.f1, hc.b0, hc.b1, hc.a0, hc.a1, hc.m0, hc.m1, hc.g0, hc.g1, ?_, ?_⟩, t⟩
  · show 0 ≤ grantI e.credit n; unfold grantI; omega
  · show grantI e.credit n ≤ _; unfold grantI; omega
end Go.Proofs.YtcppibjllaablaaGreat.egr

/-
  egress.Out: Put.
-/
namespace Go.Proofs.YtcppibjllaablaaGreat.egr
open Go.RowKit mem Go.Maps
set_option linter.unusedVariables false

abbrev ics (x : que.It) : Array Value := #[.int .i64 x.n, .int .i64 x.size, .int .i64 x.tick, .bool x.key]
/-- the item as a flow takes it -/
def keyed (f : Ef) (x : que.It) : que.It := ⟨x.n, x.size, x.tick, x.key || !f.video⟩
set_option maxRecDepth 100000 in
set_option maxHeartbeats 2000000 in
theorem put_none (A : Ad) (k : Nat) (e : Eo) (id : Int) (x : que.It) (w : World) (h : Es w A k e) (hf : fnd e.L id = none) (n0 : -9223372036854775808 ≤ id) (n1 : id ≤ 9223372036854775807) :
    Calls Tryz.prog 15 #[.pointer (some ⟨A.o, 0, none⟩), .int .i64 id, x.v] w fun e w' => e = .returned (.tuple #[.slice none 0 0, .bool false]) ∧ New w w' := by
  obtain ⟨xn, xs, xt, xk⟩ := x
  dsimp only [que.It.v]
  have HN : Hid (New w (w.alloc (.cells #[.int .i64 xn, .int .i64 xs, .int .i64 xt, .bool xk] que.PT))) := Lib.hid ((Turns.refl _ _).alloc _)
  have h1 := h.later HN.out
  have c5 := h1.blk.cell 5
  have hr := h1.look_none hf n0 n1
  clear h h1 hf
  go_enter Tryz.func15, Tryz.ntmps15
  go_upto_region 2 with fail
  go_quiet (fail)
  go_wp2
  go_ret2
  exact ⟨rfl, HN.out.drewN _⟩
set_option maxRecDepth 100000 in
set_option maxHeartbeats 2000000 in
theorem put_great (A : Ad) (k : Nat) (e : Eo) (f : Ef) (x : que.It) (w : World) (h : Es w A k e) (hf : f ∈ e.L) (hx : e.most < x.size) :
    Calls Tryz.prog 15 #[.pointer (some ⟨A.o, 0, none⟩), .int .i64 f.id, x.v] w fun e w' => e = .returned (.tuple #[.slice none 0 0, .bool false]) ∧ New w w' := by
  obtain ⟨xn, xs, xt, xk⟩ := x
  dsimp only [que.It.v]
  have HN : Hid (New w (w.alloc (.cells #[.int .i64 xn, .int .i64 xs, .int .i64 xt, .bool xk] que.PT))) := Lib.hid ((Turns.refl _ _).alloc _)
  have HB : Hid (Blk (w.alloc (.cells #[.int .i64 xn, .int .i64 xs, .int .i64 xt, .bool xk] que.PT)) w.heap.size #[.int .i64 xn, .int .i64 xs, .int .i64 xt, .bool xk] que.PT) := Lib.hid (Blk.new _ _ _)
  have h1 := h.later HN.out
  have c5 := h1.blk.cell 5
  have c3 := h1.blk.cell 3
  have x1 := HB.out.cell 1
  have hr := h1.look hf
  have d1 : decide (e.most < xs) = true := decide_eq_true hx
  clear h h1 hf hx
  go_enter Tryz.func15, Tryz.ntmps15
  go_upto_region 2 with fail
  go_quiet (fail)
  go_wp2
  go_ret2
  exact ⟨rfl, HN.out.drewN _⟩
theorem putQ_frames (q : que.Q) (x : que.It) : (que.putQ q x).frames = q.frames ∧ (que.putQ q x).most = q.most := by
  unfold que.putQ
  constructor <;> (repeat' split) <;> rfl
theorem putD_len (q : que.Q) (x : que.It) (h : q.L.length ≤ 1024) : (que.putD q x).length ≤ 1048576 := by
  unfold que.putD
  split
  · exact Nat.zero_le _
  · rw [List.length_take]; omega
theorem putQ_mem {q : que.Q} {x z : que.It} (h : z ∈ (que.putQ q x).L) : z ∈ q.L ∨ z = x := by
  unfold que.putQ at h
  (repeat' split at h) <;> simp at h
  all_goals first | exact .inl h | exact .inl (List.mem_of_mem_drop h) | (rcases h with h | h; exact .inl (List.mem_of_mem_drop h); exact .inr h) | (rcases h with h | h; exact .inl h; exact .inr h)
set_option maxRecDepth 100000 in
set_option maxHeartbeats 2000000 in
theorem put_some (A : Ad) (k : Nat) (e : Eo) (f : Ef) (x : que.It) (w : World) (h : Es w A k e) (hf : f ∈ e.L) (hx : x.size ≤ e.most) (s0 : -9223372036854775808 ≤ x.size) :
    Calls Tryz.prog 15 #[.pointer (some ⟨A.o, 0, none⟩), .int .i64 f.id, x.v] w fun z w' => ∃ u pv', z = .returned (.tuple #[u, .bool (que.putOk f.q (keyed f x))]) ∧ Es w' A k ⟨e.frames, e.bytes, e.age, e.most, e.guard, e.credit, e.row, setQ e.L f.id pv' (que.putQ f.q (keyed f x)), e.s⟩ ∧ Turns (que.Foot f.qb f.pv) w w' ∧ Owns SE SeT w' u (nam f.id (que.putD f.q (keyed f x))) ∧ (∀ g, u.ownBlock = some g → w.heap.size ≤ g) ∧ (pv'.ownBlock = f.pv.ownBlock ∨ ∃ g, pv'.ownBlock = some g ∧ w.heap.size ≤ g) := by
  have hs1 : x.size ≤ 9223372036854775807 := by have := h.cf.m1; omega
  have HW := Lib.hid h
  have HPD : Hid ((que.putD f.q (keyed f x)).length ≤ 1048576) := Lib.hid (putD_len _ _ (h.qs f hf).small)
  have HPS : Hid (∀ z ∈ (que.putQ f.q (keyed f x)).L, z.size ≤ e.most) := Lib.hid (fun z hz => (putQ_mem hz).elim ((h.fq f hf).sz z) (fun e2 => by rw [e2]; exact hx))
  have HKD : Hid (keyed f x = ⟨x.n, x.size, x.tick, x.key || !f.video⟩ ∧ x.size ≤ e.most) := Lib.hid ⟨rfl, hx⟩
  have HP := Lib.hid (fun W hq => que.put f.qb f.pv f.q (keyed f x) W hq s0 hs1)
  rw [HKD.out.1] at HP
  dsimp only [que.It.v] at HP
  generalize keyed f x = y at *
  obtain ⟨xn, xs, xt, xk⟩ := x
  dsimp only [que.It.v] at *
  have HN : Hid (New w (w.alloc (.cells #[.int .i64 xn, .int .i64 xs, .int .i64 xt, .bool xk] que.PT))) := Lib.hid ((Turns.refl _ _).alloc _)
  have hb : Blk (w.alloc (.cells #[.int .i64 xn, .int .i64 xs, .int .i64 xt, .bool xk] que.PT)) w.heap.size #[.int .i64 xn, .int .i64 xs, .int .i64 xt, .bool xk] que.PT := Blk.new _ _ _
  have HB := Lib.hid hb
  have h1 := h.later HN.out
  have HH := Lib.hid h1
  have HF := Lib.hid hf
  have c5 := h1.blk.cell 5
  have c3 := h1.blk.cell 3
  obtain ⟨⟨x0, x1, x2, x3⟩, g0, g1, g2, g3⟩ := que.four hb
  obtain ⟨⟨f0, f1⟩, _⟩ := drr.two (h1.fb f hf)
  have hr := h1.look hf
  have d1 : decide (e.most < xs) = false := decide_eq_false (by omega)
  clear h h1 hf hx hb hs1 s0
  go_enter Tryz.func15, Tryz.ntmps15
  go_upto_region 2 with fail
  go_quiet (fail)
  have HH2 : Hid (Es ((w.alloc (.cells #[.int .i64 xn, .int .i64 xs, .int .i64 xt, .bool xk] que.PT)).drewN nq) A k e) := Lib.hid (HH.out.later ((Turns.refl _ _).drewN _))
  have HB2 : Hid (Blk ((w.alloc (.cells #[.int .i64 xn, .int .i64 xs, .int .i64 xt, .bool xk] que.PT)).drewN nq) w.heap.size #[.int .i64 xn, .int .i64 xs, .int .i64 xt, .bool xk] que.PT) := Lib.hid HB.out
  have HN2 : Hid (New w ((w.alloc (.cells #[.int .i64 xn, .int .i64 xs, .int .i64 xt, .bool xk] que.PT)).drewN nq)) := Lib.hid (HN.out.drewN _)
  have HPB : Hid (∃ pb, pb = w.heap.size) := Lib.hid ⟨_, rfl⟩
  obtain ⟨pb, hpb⟩ := HPB.out
  rw [← hpb] at HB2 ⊢
  have HPL := Lib.hid hpb
  clear HH HN HB c5 c3 x0 x1 x2 x3 g0 g1 g2 g3 f0 f1 hr hpb HPB
  generalize (w.alloc (.cells #[.int .i64 xn, .int .i64 xs, .int .i64 xt, .bool xk] que.PT)).drewN nq = w1 at *
  obtain ⟨⟨x0, x1, x2, x3⟩, g0, g1, g2, g3⟩ := que.four HB2.out
  obtain ⟨⟨f0, f1⟩, _⟩ := drr.two (HH2.out.fb f HF.out)
  generalize f.video = fv at *
  cases xk <;> cases fv
  all_goals
    simp only [Bool.not_false, Bool.not_true, Bool.or_true, Bool.or_false] at HP HKD
  all_goals
    rw [← HKD.out.1] at HP
    go_upto_region 5 with fail
    have HN3 := Lib.hid (HN2.out.setCell (p := ⟨pb, 3, none⟩) (.inr (by rw [HPL.out]; exact Nat.le_refl _)) (.bool (y.key)))
    have HB3 := Lib.hid (HB2.out.set 3 (.bool (y.key)))
    rw [HKD.out.1] at HN3 HB3
    dsimp only at HN3 HB3
    clear HN2 HB2 x0 x1 x2 x3 g0 g1 g2 g3 f0 f1 HH2
    generalize w1.setCell ⟨pb, 3, none⟩ _ = w3 at *
    have HH3 := Lib.hid (HW.out.later HN3.out)
    obtain ⟨⟨x0, x1, x2, x3⟩, _⟩ := que.four HB3.out
    obtain ⟨⟨f0, f1⟩, _⟩ := drr.two (HH3.out.fb f HF.out)
    have HQ3 := Lib.hid (HH3.out.qs f HF.out)
    go_region_with (go_at_call 39; (with_reducible refine Calls.mono (HP.out _ ?_) ?_); (focus (exact HQ3.out.later ((Turns.refl _ _).drew))); rintro z w4 ⟨v, rfl, hpp⟩; have HPP := Lib.hid hpp; clear hpp)
  all_goals
    obtain ⟨ao, c, hv, _, _, _⟩ := HPP.out.fr.own.form
    subst hv
    have HNM := Lib.hid (named f.id _ _ w4 HPP.out.fr.own HPD.out)
    clear x0 x1 x2 x3 f0 f1
    go_wp2_with fail
    refine HNM.out.mono ?_
    rintro z w5 ⟨u, rfl, hg⟩
    have HG := Lib.hid hg
    clear hg HNM
    go_wp2
    go_ret2
    obtain ⟨pv', hloc, hes⟩ := HH3.out.queue HF.out (q' := que.putQ f.q y) ⟨HPP.out.lft.qs, Turns.of_drew HPP.out.lft.turns⟩ (putQ_frames _ _).1 (putQ_frames _ _).2 HPS.out
    have t : Turns (que.Foot f.qb f.pv) w w4 := (HN3.out.mono (fun _ _ h => h.elim)).trans ((Turns.of_drew HPP.out.lft.turns).mono (fun i _ hi => .inl hi))
    exact ⟨u, pv', rfl, hes.later HG.out.n, t.trans (HG.out.n.mono (fun _ _ h => h.elim)), HG.out.own, (fun g hg => Nat.le_trans t.size (HG.out.vb g hg)), hloc.elim .inl (fun ⟨g, h1, h2⟩ => .inr ⟨g, h1, Nat.le_trans HN3.out.size h2⟩)⟩
end Go.Proofs.YtcppibjllaablaaGreat.egr

/-
  egress.Out: the rising numbers of the flows.
-/
namespace Go.Proofs.YtcppibjllaablaaGreat.egr
open Go.RowKit mem Go.Maps Go.Sort Go.Shelf
open Go.Proofs.YtcppibjllaablaaGreat.itr
set_option linter.unusedVariables false

theorem keysF (mb : Option Nat) (W : World) : Calls Tryz.prog 76 #[.map mb] W fun e w' => e = .returned (.func (.func 110) #[] #[.pointer (some ⟨W.heap.size, 0, none⟩)]) ∧ w' = W.alloc (.cells #[.map mb] MT) :=
  (callsIn_wide (n := 5)).1 (AnyZI.keys_in Tryz.keysIF Fence.wide 5 trivial rfl mb W)
set_option maxHeartbeats 1000000 in
theorem sortedF (b nn : Nat) (D : DataW Unit) (R : Value → Option (DataW Unit × List MemPlace)) (l : List Int) (w : World) (hown : w.ownsMap Tryz.prog 3 R b nn D) (hmax : Maps.size D ≤ 1048576)
    (hasc : l.Pairwise (· < ·)) (hl : ∀ x, x ∈ l ↔ Maps.has D (.int .i64 x) = true) :
    Calls Tryz.prog 75 #[.func (.func 110) #[] #[.pointer (some ⟨w.heap.size, 0, none⟩)]] (w.alloc (.cells #[.map (some b)] MT)) fun e w' => ∃ v : Value, e = .returned v ∧ Owns IntE 3 w' v l ∧ (∀ g, v.ownBlock = some g → w.heap.size ≤ g) ∧ Turns (fun _ => False) w w' := by
  have hbl := hown.lt
  have hseq : SeqGives Fence.wide 2 Tryz.prog 110 #[.pointer (some ⟨w.heap.size, 0, none⟩)] encZ (fun ss => ss.Perm (intKeys D)) (Maps.size D) (w.alloc (.cells #[.map (some b)] MT)) :=
    AnyZI.keys_gives (ρ := Tryz.keysIF_ren) { Tryz.keysIF with } Fence.wide _ trivial rfl (by omega) w.heap.size b nn D _ (by simp) (by simp) (by
      obtain ⟨es, clock, hb, Ft, hs, hD⟩ := hown
      exact ⟨es, clock, (Below.heap_alloc _ _ b hbl).trans hb, Ft, hs, hD⟩)
  have hper : l.Perm (intKeys D) := CollectedI.perm (left := fun _ => false) ⟨asc_nodup hasc, fun x => by rw [hl x]; simp⟩ hown (int_keyed Tryz.underlying3) Tryz.underlying3 (fun _ => rfl)
  have cS := AnyZI.sorted_in Tryz.sortedI Fence.wide 5 trivial trivial trivial trivial rfl (by omega) (sortsI _) (enters_of Tryz.func109 (by kernel_rfl) rfl) 110 #[.pointer (some ⟨w.heap.size, 0, none⟩)] trivial (enters_of Tryz.func110 (by kernel_rfl) rfl) _ _ (by unfold maxLen; omega) (by omega) _ hseq
  refine ((callsIn_wide (n := 5)).1 cS).mono ?_
  rintro e w' ⟨v, ss, rfl, hS, hrow, hnil, hb⟩
  have hs := sorted_is (hS.trans hper.symm) hasc
  have hlen : ss.length = l.length := (hS.trans hper.symm).length_eq
  rw [hs, hlen] at hrow
  have e2 : (w.alloc (.cells #[.map (some b)] MT)).heap.size = w.heap.size + 1 := by unfold World.alloc; exact Array.size_push _
  refine ⟨v, rfl, ?_, fun g hg => ?_, ((Turns.refl _ w).alloc _).trans ((Turns.of_below hb).mono (fun i hi h => .inr (by omega)))⟩
  · unfold Owns
    rw [intE_all]
    exact ownsRow_base_a hrow (Nat.zero_le _)
  · have := (World.ownsRow.lt hrow g hg).1
    omega
/-- the numbers, rising -/
def idS (L : List Ef) : List Int := (L.map (·.id)).mergeSort (fun x y => decide (x ≤ y))
theorem idS_perm (L : List Ef) : (idS L).Perm (L.map (·.id)) := List.mergeSort_perm _ _
theorem idS_mem (L : List Ef) (x : Int) : x ∈ idS L ↔ ∃ f ∈ L, f.id = x := by
  rw [(idS_perm L).mem_iff, List.mem_map]
theorem idS_asc {L : List Ef} (h : Ap L) : (idS L).Pairwise (· < ·) := by
  have h1 : (idS L).Pairwise (fun x y => decide (x ≤ y) = true) := List.pairwise_mergeSort (fun a b c h1 h2 => by simp at *; omega) (fun a b => by simp; omega) _
  have h2 : (idS L).Nodup := by
    rw [(idS_perm L).nodup_iff]
    exact List.pairwise_map.2 (h.imp (fun h => h.1))
  have h3 := List.pairwise_and_iff.2 ⟨h1, h2⟩
  exact h3.imp (fun ⟨h4, h5⟩ => by simp at h4; omega)
theorem fnd_isSome (L : List Ef) (x : Int) : (fnd L x).isSome = true ↔ ∃ f ∈ L, f.id = x := by
  constructor
  · intro h
    obtain ⟨f, hf⟩ := Option.isSome_iff_exists.1 h
    obtain ⟨h1, h2⟩ := fnd_some hf
    exact ⟨f, h1, h2⟩
  · rintro ⟨f, hf, rfl⟩
    cases hx : fnd L f.id with
    | none => exact absurd rfl (fnd_none hx f hf)
    | some g => rfl
set_option maxRecDepth 100000 in
theorem ids (A : Ad) (k : Nat) (e : Eo) (w : World) (h : Es w A k e) (hk : k ≤ 1048576) :
    Calls Tryz.prog 28 #[.pointer (some ⟨A.o, 0, none⟩)] w fun x w' => ∃ v, x = .returned v ∧ Gr IntE 3 w w' v (idS e.L) := by
  obtain ⟨c, D, hc, hmp, hrd⟩ := h.map
  have hsz : Maps.size D ≤ 1048576 := Nat.le_trans hmp.size_le (by omega)
  have c5 := h.blk.cell 5
  have HKY := Lib.hid (keysF (some A.mb) w)
  have HSO := Lib.hid (sortedF A.mb c D drr.ptrE (idS e.L) w hmp hsz (idS_asc h.ap) (fun x => by rw [hrd.has x, idS_mem, fnd_isSome]))
  clear h hmp hrd hsz
  go_enter Tryz.func28, Tryz.ntmps28
  go_wp2_with fail
  refine HKY.out.mono ?_
  rintro x w1 ⟨rfl, rfl⟩
  go_wp2_with fail
  refine HSO.out.mono ?_
  rintro x w2 ⟨v, rfl, ho, hv, hn⟩
  have HO : Hid (Gr IntE 3 w w2 v (idS e.L)) := Lib.hid ⟨ho, hv, hn⟩
  clear ho hv hn
  go_wp2
  go_ret
  exact ⟨v, rfl, HO.out⟩
end Go.Proofs.YtcppibjllaablaaGreat.egr

/-
  drr: flows 0 .. n-1, each of which has a head: Choose stays, or goes to the next one. Pure; the rows that the laws build.
-/
namespace Go.Proofs.YtcppibjllaablaaGreat.drr
open Go.RowKit mem Go.Maps
set_option linter.unusedVariables false

def natL (n : Nat) : List Int := (List.range n).map Int.ofNat
theorem natL_len (n : Nat) : (natL n).length = n := by simp [natL]
theorem natL_mem {n : Nat} {x : Int} : x ∈ natL n ↔ ∃ i : Nat, i < n ∧ (i : Int) = x := by
  unfold natL
  rw [List.mem_map]
  constructor
  · rintro ⟨i, hi, e⟩
    exact ⟨i, List.mem_range.1 hi, e⟩
  · rintro ⟨i, hi, e⟩
    exact ⟨i, List.mem_range.2 hi, e⟩
theorem natL_succ (n : Nat) : natL (n + 1) = natL n ++ [(n : Int)] := by
  unfold natL
  rw [List.range_succ, List.map_append]; rfl
theorem natL_asc (n : Nat) : (natL n).Pairwise (· < ·) := by
  induction n with
  | zero => exact List.Pairwise.nil
  | succ n ih =>
    rw [natL_succ, List.pairwise_append]
    refine ⟨ih, List.pairwise_singleton _ _, fun x hx y hy => ?_⟩
    obtain ⟨i, hi, rfl⟩ := natL_mem.1 hx
    simp at hy; subst hy
    omega
theorem natL_get (n j : Nat) (h : j < n) : (natL n).getD j 0 = (j : Int) := by
  unfold natL
  rw [List.getD_eq_getElem?_getD, List.getElem?_map, List.getElem?_range h]; rfl
theorem natL_count (n j : Nat) (h : j ≤ n) : (natL n).countP (fun x => decide (x < (j : Int))) = j := by
  induction n with
  | zero =>
    have : j = 0 := by omega
    subst this; rfl
  | succ n ih =>
    rw [natL_succ, List.countP_append]
    by_cases e : j ≤ n
    · rw [ih e, List.countP_cons, decide_eq_false (by omega)]
      simp
    · have hj : j = n + 1 := by omega
      subst hj
      have h1 : ∀ m : Nat, m ≤ n + 1 → (natL m).countP (fun x => decide (x < ((n + 1 : Nat) : Int))) = m := by
        intro m hm
        induction m with
        | zero => rfl
        | succ m ihm =>
          rw [natL_succ, List.countP_append, ihm (by omega), List.countP_cons, decide_eq_true (by push_cast; omega)]
          simp
      rw [h1 n (by omega), List.countP_cons, decide_eq_true (by push_cast; omega)]
      simp
theorem next_full (n j : Nat) (h : j < n) : nextId (natL n) (j : Int) = (((j + 1) % n : Nat) : Int) := by
  unfold nextId
  have hm : (j : Int) ∈ natL n := natL_mem.2 ⟨j, h, rfl⟩
  rw [natL_count n j (by omega), if_pos hm, natL_len]
  exact natL_get n _ (Nat.mod_lt _ (by omega))

/-- a head for each of the flows 0 .. n-1 -/
def hsN (n : Nat) (z : Nat → Int) : Hs := (List.range n).map (fun (i : Nat) => ((i : Int), z i))
theorem hsN_ids (n : Nat) (z : Nat → Int) : ids (hsN n z) = natL n := by
  unfold ids hsN natL
  rw [List.map_map]; rfl
theorem hsN_len (n : Nat) (z : Nat → Int) : (hsN n z).length = n := by
  unfold hsN
  rw [List.length_map, List.length_range]
theorem hsN_succ (n : Nat) (z : Nat → Int) : hsN (n + 1) z = hsN n z ++ [((n : Int), z n)] := by
  unfold hsN
  rw [List.range_succ, List.map_append]; rfl
theorem hsN_get {n : Nat} {z : Nat → Int} {j : Nat} (h : j < n) : (hsN n z)[j]? = some ((j : Int), z j) := by
  unfold hsN
  rw [List.getElem?_map, List.getElem?_range h]; rfl
theorem hsN_mem {n : Nat} {z : Nat → Int} {x : Int × Int} (h : x ∈ hsN n z) : ∃ i : Nat, i < n ∧ x = ((i : Int), z i) := by
  obtain ⟨i, hi, e⟩ := List.mem_map.1 h
  exact ⟨i, List.mem_range.1 hi, e.symm⟩
theorem hsN_size {n : Nat} {z : Nat → Int} {j : Nat} (h : j < n) : sizeOf' (hsN n z) (j : Int) = z j := by
  have h1 : (j : Int) ∈ ids (hsN n z) := by rw [hsN_ids]; exact natL_mem.2 ⟨j, h, rfl⟩
  obtain ⟨i, hi, e⟩ := hsN_mem (sizeOf_mem h1)
  injection e with e1 e2
  have : i = j := by omega
  subst this
  exact e2

/-- flows 0 .. n-1, and no other one; whose turn it is -/
structure Fu (n : Nat) (m : Int) (s : Sc) (t : Nat) : Prop where
  mo : s.most = m
  id : s.L.map (·.id) = natL n
  tu : s.turn = (t : Int)
theorem Fu.fl {n : Nat} {m : Int} {s : Sc} {t : Nat} (h : Fu n m s t) {i : Nat} (hi : i < n) : ∃ f ∈ s.L, f.id = (i : Int) := by
  have : (i : Int) ∈ s.L.map (·.id) := by rw [h.id]; exact natL_mem.2 ⟨i, hi, rfl⟩
  obtain ⟨f, hf, e⟩ := List.mem_map.1 this
  exact ⟨f, hf, e⟩
theorem Fu.ok {n : Nat} {m : Int} {s : Sc} {t : Nat} (h : Fu n m s t) {z : Nat → Int} (hz : ∀ i, i < n → 0 ≤ z i ∧ z i ≤ m) : Ok s (hsN n z) :=
  ⟨by rw [hsN_ids]; exact natL_asc n, (fun x hx => by obtain ⟨i, hi, rfl⟩ := hsN_mem hx; exact h.fl hi), (fun x hx => by obtain ⟨i, hi, rfl⟩ := hsN_mem hx; rw [h.mo]; exact hz i hi)⟩
theorem Fu.none {n : Nat} {m : Int} {s : Sc} {t : Nat} (h : Fu n m s t) : fnd s.L (n : Int) = none := by
  cases hx : fnd s.L (n : Int) with
  | none => rfl
  | some f =>
    obtain ⟨h1, h2⟩ := fnd_some hx
    have : f.id ∈ s.L.map (·.id) := List.mem_map.2 ⟨f, h1, rfl⟩
    rw [h.id, h2] at this
    obtain ⟨i, hi, e⟩ := natL_mem.1 this
    omega
theorem Fu.add {n : Nat} {m : Int} {s : Sc} {t : Nat} (h : Fu n m s t) (b : Nat) (sh : Int) : Fu (n + 1) m (addS s (n : Int) b sh) t :=
  ⟨h.mo, by show (s.L ++ [_]).map _ = _; rw [List.map_append, h.id, natL_succ]; rfl, h.tu⟩
theorem Fu.sim {n : Nat} {m : Int} {s s' : Sc} {t t' : Nat} (h : Fu n m s t) (k : Sim s s') (ht : s'.turn = (t' : Int)) : Fu n m s' t' := by
  obtain ⟨e, F, e2⟩ := k
  refine ⟨e.trans h.mo, ?_, ht⟩
  rw [e2]
  show (s.L.map _).map _ = _
  rw [List.map_map]
  exact h.id
theorem beg_full {n : Nat} {m : Int} {s : Sc} {t : Nat} (h : Fu n m s t) (z : Nat → Int) : begS (hsN n z) s = s := by
  unfold begS
  have : upd s.L (forgetF (hsN n z)) = s.L := upd_same _ _ (fun f hf => by
    unfold forgetF
    rw [if_pos]
    rw [hsN_ids, ← h.id]
    exact List.mem_map.2 ⟨f, hf, rfl⟩)
  rw [this]
theorem hs_ne {n : Nat} {z : Nat → Int} (hn : 0 < n) : hsN n z ≠ [] := fun e => by
  have := hsN_len n z
  rw [e] at this; simp at this; omega
/-- Choose, told by whether the flow whose turn it is has enough -/
theorem choose_full {n : Nat} {m : Int} {s : Sc} {t : Nat} (h : Fu n m s t) (z : Nat → Int) (ht : t < n) :
    chooseS (hsN n z) s = if leftOf (grantS s) (t : Int) < z t then grantS ⟨s.most, (grantS s).L, (((t + 1) % n : Nat) : Int), false⟩ else grantS s := by
  have e1 : chooseS (hsN n z) s = runS (hsN n z) (firS (hsN n z) s) := by
    have := hs_ne (z := z) (show 0 < n by omega)
    cases hx : hsN n z with
    | nil => exact absurd hx this
    | cons _ _ => rfl
  have e2 : firS (hsN n z) s = s := by
    unfold firS
    rw [if_pos (by rw [hsN_ids, h.tu]; exact natL_mem.2 ⟨t, ht, rfl⟩)]
    exact beg_full h z
  rw [e1, e2]
  unfold runS lowS
  rw [h.tu, hsN_size ht]
  by_cases hlow : leftOf (grantS s) (t : Int) < z t
  · rw [decide_eq_true hlow, if_pos rfl, if_pos hlow]
    unfold passS
    rw [(grant_turn s).1, (grant_turn s).2.1, h.tu, hsN_ids, next_full n t ht]
  · rw [decide_eq_false hlow, if_neg (by decide), if_neg hlow]
theorem choose_turn {n : Nat} {m : Int} {s : Sc} {t : Nat} (h : Fu n m s t) (z : Nat → Int) (ht : t < n) :
    ∃ t' : Nat, (t' = t ∨ t' = (t + 1) % n) ∧ (chooseS (hsN n z) s).turn = (t' : Int) := by
  rw [choose_full h z ht]
  split
  · exact ⟨_, .inr rfl, (grant_turn _).1⟩
  · exact ⟨t, .inl rfl, (grant_turn _).1.trans h.tu⟩

/-! ### rows -/
def HE : Enc (Int × Int) := ⟨2, fun x => [.int .i64 x.1, .int .i64 x.2], fun _ => rfl, fun x u hu => by
  simp at hu
  rcases hu with rfl | rfl <;> rfl⟩
theorem infoH : (Tryz.prog.info? HT).map (fun i => (i.zero, i.size, i.bytes)) = some (some (.agg #[.int .i64 0, .int .i64 0]), 2, 16) := by kernel_rfl
theorem infoI : (Tryz.prog.info? 3).map (fun i => (i.zero, i.size, i.bytes)) = some (some (.int .i64 0), 1, 8) := by kernel_rfl
theorem hrow_owns {w : World} {v : Value} {l : Hs} (h : Owns HE HT w v l) : HRow w v l := by
  obtain ⟨ao, c, rfl, hc, hr, _⟩ := h.form
  refine ⟨ao, c, rfl, hc, ?_⟩
  rcases hr with e | ⟨g, e, hg, hcell⟩
  · exact .inl e
  · refine .inr ⟨g, 0, e, hg, fun j x hj => ?_⟩
    have h0 := hcell j x hj 0 _ rfl
    have h1 := hcell j x hj 1 _ rfl
    rw [Nat.zero_add]
    exact ⟨h0, h1⟩
/-- a schedule, and a row beside it -/
structure Wr {α : Type} (E : Enc α) (T : TypeId) (w wr : World) (p mb : Nat) (s : Sc) (v : Value) (l : List α) : Prop where
  own : Owns E T wr v l
  vb : ∀ g, v.ownBlock = some g → w.heap.size ≤ g
  off : ∀ g, v.ownBlock = some g → ¬ Foot p mb s g
section
variable {α : Type} {E : Enc α} {T : TypeId} {w wr w2 : World} {p mb : Nat} {s s' : Sc} {v v' : Value} {l : List α}
theorem Wr.later (h : Wr E T w wr p mb s v l) (n : New wr w2) : Wr E T w w2 p mb s v l := ⟨h.own.turns n (fun _ _ h => h), h.vb, h.off⟩
theorem Wr.call (h : Wr E T w wr p mb s v l) (t : Turns (Foot p mb s) wr w2) (sim : Sim s s') : Wr E T w w2 p mb s' v l :=
  ⟨h.own.turns t h.off, h.vb, fun g hg e => h.off g hg (sim.foot e)⟩
theorem Wr.add (h : Wr E T w wr p mb s v l) (t : Turns (· = mb) wr w2) (id sh : Int) : Wr E T w w2 p mb (addS s id wr.heap.size sh) v l :=
  ⟨h.own.turns t (fun g hg e => h.off g hg (.inr (.inl e))), h.vb, fun g hg e => by
    rcases e with e | e | ⟨f, hf, e⟩
    · exact h.off g hg (.inl e)
    · exact h.off g hg (.inr (.inl e))
    · rcases List.mem_append.1 hf with hf | hf
      · exact h.off g hg (.inr (.inr ⟨f, hf, e⟩))
      · simp at hf; subst hf
        have := h.own.lt g hg
        have e2 : wr.heap.size = g := e
        omega⟩
/-- something is appended -/
theorem Wr.push {u : List α} {o : Obj} {c : Nat} {D : DataW Unit} (h : Wr E T w wr p mb s v l) (hn : New w wr) (hs : Ss wr p mb c D s) (ho : Owns E T w2 v' (l ++ u)) (hg : (wr.alloc o).grownBy w2 v.ownBlock) (ha : v'.ownBlock = v.ownBlock ∨ v'.ownBlock = some (wr.alloc o).heap.size) : Wr E T w w2 p mb s v' (l ++ u) := by
  have hsz : (wr.alloc o).heap.size = wr.heap.size + 1 := by unfold World.alloc; exact Array.size_push _
  refine ⟨ho, fun g hg => ?_, fun g hg e => ?_⟩
  · rcases ha with e | e
    · exact h.vb g (by rw [← e]; exact hg)
    · rw [e] at hg; injection hg with hg
      have := hn.size; omega
  · rcases ha with e2 | e2
    · exact h.off g (by rw [← e2]; exact hg) e
    · rw [e2] at hg; injection hg with hg
      have := hs.foot g e; omega
end
/-- the schedule behind an append -/
theorem Rn.push {α : Type} {E : Enc α} {T : TypeId} {w wr w2 : World} {p mb c : Nat} {D : DataW Unit} {s : Sc} {v : Value} {l : List α} {o : Obj} (h : Rn w wr p mb c D s) (hw : Wr E T w wr p mb s v l) (hg : (wr.alloc o).grownBy w2 v.ownBlock) : Rn w w2 p mb c D s ∧ Turns (fun k => some k = v.ownBlock) wr w2 := by
  have t := Gr.turned hg
  exact ⟨⟨h.ss.turns t (fun e => hw.off p e.symm (.inl rfl)) (fun e => hw.off mb e.symm (.inr (.inl rfl))) (fun f hf e => hw.off f.b e.symm (.inr (.inr ⟨f, hf, rfl⟩))), h.n.trans (t.mono (fun i _ hi => .inr (hw.vb i hi.symm))), h.p0, h.m0, h.f0⟩, t⟩
end Go.Proofs.YtcppibjllaablaaGreat.drr

/-
  egress.Out: whose turn it is, as a pure function of the flows.
-/
namespace Go.Proofs.YtcppibjllaablaaGreat.egr
open Go.RowKit mem Go.Maps
open Go.Proofs.YtcppibjllaablaaGreat.itr
set_option linter.unusedVariables false

/-- the heads of pictures, the oldest sound -/
structure Nx where
  H : drr.Hs
  b : Option Snt
def stepN (L : List Ef) (s : Nx) (id : Int) : Nx :=
  match fnd L id with
  | none => s
  | some f => match f.q.L with
    | [] => s
    | x :: _ => if f.video = true then ⟨s.H ++ [(id, x.size)], s.b⟩ else
      match s.b with
      | none => ⟨s.H, some ⟨id, x⟩⟩
      | some y => if x.tick < y.x.tick then ⟨s.H, some ⟨id, x⟩⟩ else s
def nx (L : List Ef) (l : List Int) : Nx := l.foldl (stepN L) ⟨[], none⟩
theorem nx_take {L : List Ef} {l : List Int} {k : Nat} {id : Int} (h : l[k]? = some id) : nx L (l.take (k + 1)) = stepN L (nx L (l.take k)) id := by
  rw [drr.take_succ' h]
  unfold nx
  rw [List.foldl_append]; rfl
theorem step_ids (L : List Ef) (s : Nx) (id : Int) : drr.ids (stepN L s id).H = drr.ids s.H ∨ drr.ids (stepN L s id).H = drr.ids s.H ++ [id] := by
  unfold stepN
  split
  · exact .inl rfl
  · split
    · exact .inl rfl
    · split
      · exact .inr (drr.ids_snoc _ _)
      · split
        · exact .inl rfl
        · split
          · exact .inl rfl
          · exact .inl rfl
theorem fold_sub (L : List Ef) : ∀ (l : List Int) (s : Nx), (drr.ids (l.foldl (stepN L) s).H).Sublist (drr.ids s.H ++ l)
  | [], s => by simp
  | x :: l, s => by
    have ih := fold_sub L l (stepN L s x)
    rw [List.foldl_cons]
    rcases step_ids L s x with e | e
    · rw [e] at ih
      exact ih.trans (List.Sublist.append_left (List.sublist_cons_self x l) _)
    · rw [e, List.append_assoc] at ih
      exact ih
theorem nx_sub (L : List Ef) (l : List Int) : (drr.ids (nx L l).H).Sublist l := fold_sub L l ⟨[], none⟩
theorem nx_len (L : List Ef) (l : List Int) : (nx L l).H.length ≤ l.length := by
  have := (nx_sub L l).length_le
  unfold drr.ids at this
  rwa [List.length_map] at this
/-- whence the heads come -/
structure Nok (L : List Ef) (s : Nx) : Prop where
  h : ∀ h ∈ s.H, ∃ f ∈ L, f.id = h.1 ∧ f.video = true ∧ ∃ x, f.q.L[0]? = some x ∧ h.2 = x.size
  b : ∀ y, s.b = some y → ∃ f ∈ L, f.id = y.id ∧ f.video = false ∧ f.q.L[0]? = some y.x
theorem Nok.step {L : List Ef} {s : Nx} (k : Nok L s) (id : Int) : Nok L (stepN L s id) := by
  unfold stepN
  split
  · exact k
  next f hf =>
    obtain ⟨h1, h2⟩ := fnd_some hf
    split
    · exact k
    next x l hl =>
      split
      next hv =>
        refine ⟨fun h hh => ?_, k.b⟩
        rcases List.mem_append.1 hh with hh | hh
        · exact k.h h hh
        · simp at hh; subst hh
          exact ⟨f, h1, h2, hv, x, by rw [hl]; rfl, rfl⟩
      next hv =>
        have hn : ∀ y, some (⟨id, x⟩ : Snt) = some y → ∃ f ∈ L, f.id = y.id ∧ f.video = false ∧ f.q.L[0]? = some y.x := fun y hy => by
          injection hy with hy; subst hy
          exact ⟨f, h1, h2, by simpa using hv, by rw [hl]; rfl⟩
        split
        · exact ⟨k.h, hn⟩
        · split
          · exact ⟨k.h, hn⟩
          · exact k
theorem fold_ok (L : List Ef) : ∀ (l : List Int) (s : Nx), Nok L s → Nok L (l.foldl (stepN L) s)
  | [], _, k => k
  | x :: l, s, k => fold_ok L l _ (k.step x)
theorem nx_ok (L : List Ef) (l : List Int) : Nok L (nx L l) := fold_ok L l _ ⟨fun h hh => (by cases hh), fun y hy => (by cases hy)⟩
def sdef : Option Snt → Snt
  | none => ⟨0, ⟨0, 0, 0, false⟩⟩
  | some y => y
/-- whose turn it is; false: nothing waits; the schedule then -/
def nextS (e : Eo) : Int × Bool × drr.Sc :=
  if (nx e.L (idS e.L)).b.isSome = true ∧ (e.row < e.guard ∨ (nx e.L (idS e.L)).H = []) then ((sdef (nx e.L (idS e.L)).b).id, true, e.s)
  else if (nx e.L (idS e.L)).H = [] then (0, false, drr.chooseS [] e.s)
  else ((drr.chooseS (nx e.L (idS e.L)).H e.s).turn, true, drr.chooseS (nx e.L (idS e.L)).H e.s)
theorem Es.ok_heads {w : World} {A : Ad} {k : Nat} {e : Eo} (h : Es w A k e) : drr.Ok e.s (nx e.L (idS e.L)).H := by
  have hk := nx_ok e.L (idS e.L)
  refine ⟨(idS_asc h.ap).sublist (nx_sub _ _), fun x hx => ?_, fun x hx => ?_⟩
  · obtain ⟨f, hf, h1, h2, _⟩ := hk.h x hx
    exact (h.vs x.1).2 ⟨f, hf, h1, h2⟩
  · obtain ⟨f, hf, h1, h2, y, hy, h3⟩ := hk.h x hx
    have hm := List.mem_of_getElem? hy
    rw [h3, h.sm]
    exact ⟨(h.qs f hf).ok.pos y hm, (h.fq f hf).sz y hm⟩
theorem Es.rg_heads {w : World} {A : Ad} {k : Nat} {e : Eo} (h : Es w A k e) : ∀ x ∈ drr.ids (nx e.L (idS e.L)).H, -9223372036854775808 ≤ x ∧ x ≤ 9223372036854775807 := fun x hx => by
  obtain ⟨f, hf, rfl⟩ := (idS_mem _ _).1 ((nx_sub _ _).subset hx)
  exact h.rg f hf
theorem Es.look1 {w : World} {A : Ad} {k : Nat} {e : Eo} (h : Es w A k e) {f : Ef} (hf : f ∈ e.L) : (Instr.lookup MT (.map (some A.mb)) (.int .i64 f.id) false).run Tryz.prog w = .ok (.pointer (some ⟨f.fb, 0, none⟩)) w := by
  obtain ⟨c, D, _, hm, hr⟩ := h.map
  obtain ⟨v, ps, hrun, hv⟩ := hm.lookup drr.lawI Tryz.underlying95 (zeroP w) (zd := .lit (.int .i64 (-1))) (zp := []) rfl (drr.keyI (h.rg f hf).1 (h.rg f hf).2)
  rw [hr.at_ f hf] at hv
  rw [drr.ptrE_inv hv] at hrun
  exact hrun
theorem fives {w : World} {p : Nat} {a b c d e : Value} {T : TypeId} (k : Blk w p #[a, b, c, d, e] T) :
    (w.cell? ⟨p, 0, none⟩ = some a ∧ w.cell? ⟨p, 1, none⟩ = some b ∧ w.cell? ⟨p, 2, none⟩ = some c ∧ w.cell? ⟨p, 3, none⟩ = some d ∧ w.cell? ⟨p, 4, none⟩ = some e) ∧ w.frozen? ⟨p, 0, none⟩ = false ∧ w.frozen? ⟨p, 1, none⟩ = false ∧ w.frozen? ⟨p, 2, none⟩ = false ∧ w.frozen? ⟨p, 3, none⟩ = false ∧ w.frozen? ⟨p, 4, none⟩ = false :=
  ⟨⟨k.cell 0, k.cell 1, k.cell 2, k.cell 3, k.cell 4⟩, k.free 0, k.free 1, k.free 2, k.free 3, k.free 4⟩
/-- the schedule turns: the call's own map -/
theorem Es.call {w w' : World} {A : Ad} {k : Nat} {e : Eo} (h : Es w A k e) {s' : drr.Sc} {c2 : Nat} {D2 : DataW Unit} (hc2 : c2 ≤ k) (hss : drr.Ss w A.sp A.smb c2 D2 e.s) (hs' : drr.Ss w' A.sp A.smb c2 D2 s') (t : Turns (drr.Foot A.sp A.smb e.s) w w') (sim : drr.Sim e.s s') : Es w' A k ⟨e.frames, e.bytes, e.age, e.most, e.guard, e.credit, e.row, e.L, s'⟩ := by
  obtain ⟨c, D, hc, hmp, hr⟩ := h.map
  have off : ∀ {r : Nat} {cs : Array Value} {T : TypeId}, Blk w r cs T → T ≠ 174 → T ≠ 178 → ¬ drr.Foot A.sp A.smb e.s r := fun hb h1 h2 hk => by
    rcases hk with e2 | e2 | ⟨f, hf, e2⟩
    · exact blk_ne hb hss.blk h1 e2
    · exact ownsMap_ne hss.map hb e2.symm
    · exact blk_ne hb (hss.fb f hf) h2 e2.symm
  refine ⟨t.blk h.blk (off h.blk (by decide) (by decide)), ⟨c, D, hc, ownsMap_turns hmp t (fun hk => ?_), hr⟩, fun f hf => t.blk (h.fb f hf) (off (h.fb f hf) (by decide) (by decide)), fun f hf => (h.qs f hf).turns t (off (h.qs f hf).blk (by decide) (by decide)) (fun g hg hk => ?_), ⟨c2, D2, hc2, hs'⟩, h.ap, h.mm, h.rg, ⟨h.cf.f0, h.cf.f1, h.cf.b0, h.cf.b1, h.cf.a0, h.cf.a1, h.cf.m0, h.cf.m1, h.cf.g0, h.cf.g1, h.cf.c0, h.cf.c1⟩, fun f hf => ⟨(h.fq f hf).fr, (h.fq f hf).mo, (h.fq f hf).sz⟩, sim.1.trans h.sm, fun id => ?_⟩
  · rcases hk with e2 | e2 | ⟨f, hf, e2⟩
    · exact ownsMap_ne hmp hss.blk e2
    · exact h.mm e2
    · exact ownsMap_ne hmp (hss.fb f hf) e2.symm
  · rcases hk with e2 | e2 | ⟨f', hf', e2⟩
    · exact own_ne (h.qs f hf).own hss.blk (by decide) (by rw [hg, e2])
    · exact ownsMap_ne_row hss.map (h.qs f hf).own g hg e2.symm
    · exact own_ne (h.qs f hf).own (hss.fb f' hf') (by decide) (by rw [hg, e2])
  · rw [← h.vs id]
    obtain ⟨_, F, e2⟩ := sim
    constructor
    · rintro ⟨f, hf, hid⟩
      rw [show (Eo.s ⟨e.frames, e.bytes, e.age, e.most, e.guard, e.credit, e.row, e.L, s'⟩) = s' from rfl, e2] at hf
      obtain ⟨f', hf', rfl⟩ := drr.upd_mem hf
      exact ⟨f', hf', hid⟩
    · rintro ⟨f, hf, hid⟩
      show ∃ f ∈ s'.L, _
      rw [e2]
      exact ⟨_, drr.upd_mem' hf, hid⟩
end Go.Proofs.YtcppibjllaablaaGreat.egr

/-
  egress.Out: next.
-/
namespace Go.Proofs.YtcppibjllaablaaGreat.egr
open Go.RowKit mem Go.Maps
open Go.Proofs.YtcppibjllaablaaGreat.itr
set_option linter.unusedVariables false

abbrev scs (y : Snt) : Array Value := #[.int .i64 y.id, .int .i64 y.x.n, .int .i64 y.x.size, .int .i64 y.x.tick, .bool y.x.key]
/-- in the loop: the heads' row, the block of the oldest sound -/
structure Lx (w wr : World) (ps : Nat) (v : Value) (s : Nx) : Prop where
  gr : Gr drr.HE drr.HT w wr v s.H
  bl : Blk wr ps (scs (sdef s.b)) SeT
  off : ∀ g, v.ownBlock = some g → g ≠ ps
theorem Lx.later {w wr w2 : World} {ps : Nat} {v : Value} {s : Nx} (h : Lx w wr ps v s) (n : New wr w2) : Lx w w2 ps v s := ⟨h.gr.later n, n.blk h.bl (fun h => h), h.off⟩
theorem Lx.push {w wr w2 : World} {ps : Nat} {v v' : Value} {s : Nx} {x : Int × Int} {o : Obj} (h : Lx w wr ps v s) (ho : Owns drr.HE drr.HT w2 v' (s.H ++ [x])) (hg : (wr.alloc o).grownBy w2 v.ownBlock) (ha : v'.ownBlock = v.ownBlock ∨ v'.ownBlock = some (wr.alloc o).heap.size) : Lx w w2 ps v' ⟨s.H ++ [x], s.b⟩ := by
  have hl := h.bl.lt
  refine ⟨h.gr.push ho hg ha, (Gr.turned hg).blk h.bl (fun e => h.off ps e.symm rfl), fun g hg2 e => ?_⟩
  rcases ha with e2 | e2
  · exact h.off g (by rw [← e2]; exact hg2) e
  · rw [e2] at hg2
    injection hg2 with hg2
    simp at hg2; omega
theorem Lx.store {w wr : World} {ps : Nat} {v : Value} {s : Nx} (h : Lx w wr ps v s) (y : Snt) (hp : w.heap.size = ps) : Lx w (puts wr ps 0 [.int .i64 y.id, .int .i64 y.x.n, .int .i64 y.x.size, .int .i64 y.x.tick, .bool y.x.key]) ps v ⟨s.H, some y⟩ := by
  have t : Turns (· = ps) wr (puts wr ps 0 [.int .i64 y.id, .int .i64 y.x.n, .int .i64 y.x.size, .int .i64 y.x.tick, .bool y.x.key]) := puts_turns (S := (· = ps)) (.inl rfl) _ _ _ (Turns.refl _ _)
  exact ⟨⟨h.gr.own.turns t (fun g hg e => h.off g hg e), h.gr.vb, h.gr.n.trans (t.mono (fun i _ hi => .inr (by rw [hi, ← hp]; exact Nat.le_refl _)))⟩, puts_blk (scs (sdef s.b)).toList _ h.bl rfl, h.off⟩
set_option maxRecDepth 100000 in
set_option maxHeartbeats 4000000 in
theorem next (A : Ad) (k : Nat) (e : Eo) (v : Value) (w : World) (h : Es w A k e) (hv : Owns IntE 3 w v (idS e.L)) (hlen : (idS e.L).length ≤ 1048576) :
    Calls Tryz.prog 29 #[.pointer (some ⟨A.o, 0, none⟩), v] w fun x w' => x = .returned (.tuple #[.int .i64 (nextS e).1, .bool (nextS e).2.1]) ∧ Es w' A k ⟨e.frames, e.bytes, e.age, e.most, e.guard, e.credit, e.row, e.L, (nextS e).2.2⟩ ∧ Turns (drr.Foot A.sp A.smb e.s) w w' := by
  obtain ⟨ao, c, rfl, hlc, hrd, _⟩ := hv.form
  have HR := Lib.hid hrd
  have HH := Lib.hid h
  have HMEM : Hid (∀ x ∈ idS e.L, ∃ f ∈ e.L, f.id = x ∧ fnd e.L x = some f) := Lib.hid (fun x hx => by
    obtain ⟨f, hf, rfl⟩ := (idS_mem _ _).1 hx
    exact ⟨f, hf, rfl, HH.out.ap.fnd hf⟩)
  have hlm : (idS e.L).length ≤ maxLen := by unfold maxLen; omega
  have hb0 : Blk (w.alloc (.cells (scs (sdef none)) SeT)) w.heap.size (scs (sdef none)) SeT := Blk.new _ _ _
  have n0 : New w (w.alloc (.cells (scs (sdef none)) SeT)) := (Turns.refl _ _).alloc _
  have HPS : Hid (∃ ps, w.heap.size = ps) := Lib.hid ⟨_, rfl⟩
  obtain ⟨ps, hps⟩ := HPS.out
  have HPL := Lib.hid hps
  rw [hps] at hb0
  have HL0 : Hid (Lx w (w.alloc (.cells (scs (sdef none)) SeT)) ps (.slice none 0 0) (nx e.L ((idS e.L).take 0))) := Lib.hid ⟨Gr.nil _ _ _ _ n0, hb0, (fun g hg => by simp [Value.ownBlock] at hg)⟩
  clear h hrd hv hb0 n0 HPS
  go_enter Tryz.func29, Tryz.ntmps29
  go_upto_region 4 with fail
  clear hps
  refine (show Code.wp _ _ _ _ (w.alloc (.cells (scs (sdef none)) SeT)) from ?_)
  generalize w.alloc (.cells (scs (sdef none)) SeT) = w0 at *
  generalize hl : idS e.L = l at *
  have HLL := Lib.hid hl
  clear hl
  go_wp2_with fail
  go_loopw [6, 8, 16] (fun v s i wr => ∃ j : Nat, j ≤ l.length ∧ i = .int .i64 j ∧ s = .bool ((nx e.L (l.take j)).b.isSome) ∧ Lx w wr ps v (nx e.L (l.take j))) (fun _ _ i _ => l.length - (intOf i).toNat)
  case atStart => exact ⟨0, Nat.zero_le _, rfl, rfl, HL0.out⟩
  case round =>
    obtain ⟨j, hj, rfl, rfl, hlx⟩ := hrel
    have HX := Lib.hid hlx
    clear hlx HL0
    by_cases hlt : j < l.length
    · obtain ⟨id, hid⟩ : ∃ x, l[j]? = some x := ⟨_, List.getElem?_eq_getElem hlt⟩
      obtain ⟨g, rfl, hb, hc⟩ := HR.out.resolve_left (fun e => by rw [e] at hlt; exact absurd hlt (Nat.not_lt_zero _))
      have d0 : wr.cell? ⟨g, j * 1 + 0, none⟩ = _ := (HX.out.gr.n.cell (a := ⟨g, j * 1 + 0, none⟩) hb (fun h => h)).trans (hc j id hid 0 _ rfl)
      rw [Nat.mul_one, Nat.add_zero] at d0
      have HTK := Lib.hid (nx_take (L := e.L) hid)
      have hlen2 := nx_len e.L (l.take j)
      rw [List.length_take, Nat.min_eq_left hj] at hlen2
      obtain ⟨f, hf, rfl, hfnd⟩ := HMEM.out id (List.mem_of_getElem? hid)
      have HF := Lib.hid (And.intro hf hfnd)
      have hes := HH.out.later HX.out.gr.n
      have HES := Lib.hid hes
      have c5 := hes.blk.cell 5
      have hr := hes.look1 hf
      obtain ⟨⟨f0, f1⟩, _⟩ := drr.two (hes.fb f hf)
      clear hc hid hb hf hfnd hes
      generalize nx e.L (l.take j) = s at *
      generalize hb8 : s.b.isSome = bs at *
      have HB8 := Lib.hid hb8
      clear hb8
      cases hq : f.q.L with
      | nil =>
        have HFI := Lib.hid (que.first_nil f.qb f.pv f.q wr (HES.out.qs f HF.out.1) hq)
        have HST : Hid (stepN e.L s f.id = s) := Lib.hid (by unfold stepN; rw [HF.out.2]; dsimp only; rw [hq])
        go_wp2_with fail
        refine HFI.out.mono ?_
        rintro x w1 ⟨rfl, n1⟩
        have HX1 := Lib.hid (HX.out.later (n1.trans ((Turns.refl _ w1).alloc (.cells #[.int .i64 0, .int .i64 0, .int .i64 0, .bool false] que.PT))))
        clear n1 hr c5 d0 f0 f1 HFI
        go_wp2_with fail
        go_roundw
        case rel => exact ⟨j + 1, by omega, by go_num, by rw [HTK.out, HST.out, HB8.out], by rw [HTK.out, HST.out]; exact HX1.out⟩
        case measure => simp [intOf]; omega
      | cons x t =>
        have HFI := Lib.hid (que.first_cons f.qb f.pv f.q x wr (HES.out.qs f HF.out.1) (by rw [hq]; rfl))
        have HST : Hid (stepN e.L s f.id = if f.video = true then ⟨s.H ++ [(f.id, x.size)], s.b⟩ else match s.b with | none => ⟨s.H, some ⟨f.id, x⟩⟩ | some y => if x.tick < y.x.tick then ⟨s.H, some ⟨f.id, x⟩⟩ else s) := Lib.hid (by
          unfold stepN
          rw [HF.out.2]
          dsimp only
          rw [hq] <;> rfl)
        clear hq
        obtain ⟨xn, xs, xt, xk⟩ := x
        dsimp only [que.It.v] at HFI HST
        go_wp2_with fail
        refine HFI.out.mono ?_
        rintro x w1 ⟨rfl, n1⟩
        have n2 : New wr (w1.alloc (.cells #[.int .i64 xn, .int .i64 xs, .int .i64 xt, .bool xk] que.PT)) := n1.trans ((Turns.refl _ w1).alloc _)
        have HX2 := Lib.hid (HX.out.later n2)
        have HB2 : Hid (Blk (w1.alloc (.cells #[.int .i64 xn, .int .i64 xs, .int .i64 xt, .bool xk] que.PT)) w1.heap.size #[.int .i64 xn, .int .i64 xs, .int .i64 xt, .bool xk] que.PT) := Lib.hid (Blk.new _ _ _)
        have HE2 := Lib.hid (HES.out.later n2)
        clear n1 n2 hr c5 d0 f0 f1 HFI HES
        go_upto_region 9 with fail
        refine (show Code.wp _ _ _ _ (w1.alloc (.cells #[.int .i64 xn, .int .i64 xs, .int .i64 xt, .bool xk] que.PT)) from ?_)
        generalize w1.alloc (.cells #[.int .i64 xn, .int .i64 xs, .int .i64 xt, .bool xk] que.PT) = w2 at *
        generalize w1.heap.size = px at *
        obtain ⟨⟨x0, x1, x2, x3⟩, _⟩ := que.four HB2.out
        obtain ⟨⟨y0, y1, y2, y3, y4⟩, g0, g1, g2, g3, g4⟩ := fives HX2.out.bl
        obtain ⟨⟨f0, f1⟩, _⟩ := drr.two (HE2.out.fb f HF.out.1)
        clear HE2 HB2
        cases hvv : f.video with
        | true =>
          rw [hvv] at f1
          rw [if_pos hvv] at HST
          clear hvv y0 y1 y2 y3 y4 g0 g1 g2 g3 g4
          go_wp2_with (at_builtin; refine wpList_append_one (E := drr.HE) Tryz.underlying165 drr.infoH rfl (by decide) (by decide) rfl _ _ rfl _ s.H (f.id, xs) rfl (HX2.out.gr.own.turns (S := fun _ => False) ((Turns.refl _ _).alloc _) (fun _ _ h => h)) w2.heap.size rfl (heap_alloc_new w2 _) (by omega) ?_; intro v4 w4 hown4 hgrow4 hat4; have HX4 := Lib.hid (HX2.out.push hown4 hgrow4 hat4); clear hown4 hgrow4 hat4)
          go_roundw
          case rel => exact ⟨j + 1, by omega, by go_num, by rw [HTK.out, HST.out, ← HB8.out], by rw [HTK.out, HST.out]; exact HX4.out⟩
          case measure => simp [intOf]; omega
        | false =>
          rw [hvv] at f1
          rw [if_neg (by rw [hvv]; decide)] at HST
          clear hvv
          cases hsb : s.b with
          | none =>
            obtain rfl : bs = false := by rw [← HB8.out, hsb]; rfl
            rw [hsb] at HST
            dsimp only at HST
            clear hsb
            go_upto_region 14 with fail
            refine (show Code.wp _ _ _ _ (puts w2 ps 0 [.int .i64 f.id, .int .i64 xn, .int .i64 xs, .int .i64 xt, .bool xk]) from ?_)
            have HX3 := Lib.hid (HX2.out.store ⟨f.id, ⟨xn, xs, xt, xk⟩⟩ HPL.out)
            clear HX2 x0 x1 x2 x3 y0 y1 y2 y3 y4 g0 g1 g2 g3 g4
            dsimp only at HX3
            generalize puts w2 ps 0 [.int .i64 f.id, .int .i64 xn, .int .i64 xs, .int .i64 xt, .bool xk] = w3 at *
            go_wp2_with fail
            go_roundw
            case rel => exact ⟨j + 1, by omega, by go_num, by rw [HTK.out, HST.out]; rfl, by rw [HTK.out, HST.out]; exact HX3.out⟩
            case measure => simp [intOf]; omega
          | some y =>
            obtain rfl : bs = true := by rw [← HB8.out, hsb]; rfl
            rw [hsb] at HST y3
            dsimp only [sdef] at HST y3
            by_cases hlt2 : xt < y.x.tick
            · have d1 : decide (xt < y.x.tick) = true := decide_eq_true hlt2
              rw [if_pos hlt2] at HST
              clear hsb hlt2
              go_upto_region 14 with fail
              refine (show Code.wp _ _ _ _ (puts w2 ps 0 [.int .i64 f.id, .int .i64 xn, .int .i64 xs, .int .i64 xt, .bool xk]) from ?_)
              have HX3 := Lib.hid (HX2.out.store ⟨f.id, ⟨xn, xs, xt, xk⟩⟩ HPL.out)
              clear HX2 x0 x1 x2 x3 y0 y1 y2 y3 y4 g0 g1 g2 g3 g4
              dsimp only at HX3
              generalize puts w2 ps 0 [.int .i64 f.id, .int .i64 xn, .int .i64 xs, .int .i64 xt, .bool xk] = w3 at *
              go_wp2_with fail
              go_roundw
              case rel => exact ⟨j + 1, by omega, by go_num, by rw [HTK.out, HST.out]; rfl, by rw [HTK.out, HST.out]; exact HX3.out⟩
              case measure => simp [intOf]; omega
            · have d1 : decide (xt < y.x.tick) = false := decide_eq_false hlt2
              rw [if_neg hlt2] at HST
              clear hsb hlt2
              go_wp2_with fail
              go_roundw
              case rel => exact ⟨j + 1, by omega, by go_num, by rw [HTK.out, HST.out, HB8.out], by rw [HTK.out, HST.out]; exact HX2.out⟩
              case measure => simp [intOf]; omega
    · obtain rfl : j = l.length := by omega
      rw [List.take_length] at HX ⊢
      obtain ⟨ao2, c2, hv2, hlc2, _, _⟩ := HX.out.gr.own.form
      have hes := HH.out.later HX.out.gr.n
      have HES := Lib.hid hes
      obtain ⟨⟨b0, b1, b2, b3, b4, b5, b6, b7, b8⟩, _⟩ := nine hes.blk
      have z0 := HX.out.bl.cell 0
      have hlenH := nx_len e.L l
      have HNS : Hid (nextS e = if (nx e.L l).b.isSome = true ∧ (e.row < e.guard ∨ (nx e.L l).H = []) then ((sdef (nx e.L l).b).id, true, e.s) else if (nx e.L l).H = [] then (0, false, drr.chooseS [] e.s) else ((drr.chooseS (nx e.L l).H e.s).turn, true, drr.chooseS (nx e.L l).H e.s)) := Lib.hid (by unfold nextS; rw [HLL.out])
      have HOKH : Hid (drr.Ok e.s (nx e.L l).H) := Lib.hid (by rw [← HLL.out]; exact HH.out.ok_heads)
      have HRGH : Hid (∀ x ∈ drr.ids (nx e.L l).H, -9223372036854775808 ≤ x ∧ x ≤ 9223372036854775807) := Lib.hid (by rw [← HLL.out]; exact HH.out.rg_heads)
      have hhr : drr.HRow wr u6 (nx e.L l).H := drr.hrow_owns HX.out.gr.own
      subst hv2
      have HHR := Lib.hid hhr
      have HN := Lib.hid HX.out.gr.n
      clear hes hhr HX hlt hj HMEM HR
      generalize nx e.L l = s at *
      obtain ⟨c3, D3, hc3, hss⟩ := HES.out.sch
      have HSS := Lib.hid (And.intro hc3 hss)
      clear hss hc3
      generalize hb8 : s.b.isSome = bs at *
      have HB8 := Lib.hid hb8
      clear hb8
      cases bs with
      | false =>
        have HIF : Hid (¬ (false = true ∧ (e.row < e.guard ∨ s.H = []))) := Lib.hid (fun h => by cases h.1)
        by_cases hH : s.H = []
        · have HRS : Hid (nextS e = (0, false, drr.chooseS [] e.s)) := Lib.hid (by rw [HNS.out, if_neg HIF.out, if_pos hH])
          have HCH := Lib.hid (fun n => drr.choose_nil A.sp A.smb c3 D3 e.s (.slice ao2 s.H.length c2) (wr.drewN n) (HSS.out.2.drewN n) (by have hq := HHR.out.later ((Turns.refl _ wr).drewN n); rw [hH] at hq ⊢; exact hq))
          clear hH
          go_upto_region 15 with fail
          go_quiet (fail)
          go_wp2_with fail
          refine (HCH.out _).mono ?_
          rintro x w5 ⟨rfl, hl⟩
          have HL5 := Lib.hid hl
          clear hl HCH
          go_wp2
          go_ret2
          rw [HRS.out]
          exact ⟨rfl, HES.out.call HSS.out.1 HSS.out.2 HL5.out.1 (Turns.of_drewN HL5.out.2) (drr.Sim.choose _ _), (HN.out.mono (fun _ _ h => h.elim)).trans ((Turns.of_drewN HL5.out.2).mono (fun i _ hi => .inl hi))⟩
        · have HRS : Hid (nextS e = ((drr.chooseS s.H e.s).turn, true, drr.chooseS s.H e.s)) := Lib.hid (by rw [HNS.out, if_neg HIF.out, if_neg hH])
          have HCH := Lib.hid (fun n => drr.choose_cons A.sp A.smb c3 D3 e.s s.H (.slice ao2 s.H.length c2) (wr.drewN n) (HSS.out.2.drewN n) (HHR.out.later ((Turns.refl _ wr).drewN n)) HOKH.out hH (by omega) HRGH.out)
          clear hH
          go_upto_region 15 with fail
          go_quiet (fail)
          go_wp2_with fail
          refine (HCH.out _).mono ?_
          rintro x w5 ⟨rfl, hl⟩
          have HL5 := Lib.hid hl
          clear hl HCH
          go_wp2
          go_ret2
          rw [HRS.out]
          exact ⟨rfl, HES.out.call HSS.out.1 HSS.out.2 HL5.out.1 (Turns.of_drewN HL5.out.2) (drr.Sim.choose _ _), (HN.out.mono (fun _ _ h => h.elim)).trans ((Turns.of_drewN HL5.out.2).mono (fun i _ hi => .inl hi))⟩
      | true =>
        by_cases hg : e.row < e.guard
        · have d1 : decide (e.row < e.guard) = true := decide_eq_true hg
          have HRS : Hid (nextS e = ((sdef s.b).id, true, e.s)) := Lib.hid (by rw [HNS.out, if_pos ⟨rfl, .inl hg⟩])
          clear hg
          go_upto_region 15 with fail
          go_quiet (fail)
          go_wp2
          go_ret2
          rw [HRS.out]
          exact ⟨rfl, HES.out.later ((Turns.refl _ _).drewN _), (HN.out.drewN _).mono (fun _ _ h => h.elim)⟩
        · have d1 : decide (e.row < e.guard) = false := decide_eq_false hg
          by_cases hH : s.H = []
          · have d2 : ((s.H.length : Int) == 0) = true := by rw [hH]; rfl
            have HRS : Hid (nextS e = ((sdef s.b).id, true, e.s)) := Lib.hid (by rw [HNS.out, if_pos ⟨rfl, .inr hH⟩])
            clear hg hH
            go_upto_region 15 with fail
            go_quiet (fail)
            go_wp2
            go_ret2
            rw [HRS.out]
            exact ⟨rfl, HES.out.later ((Turns.refl _ _).drewN _), (HN.out.drewN _).mono (fun _ _ h => h.elim)⟩
          · have d2 : ((s.H.length : Int) == 0) = false := by
              have : 0 < s.H.length := List.length_pos_iff.2 hH
              simp; omega
            have HIF : Hid (¬ (true = true ∧ (e.row < e.guard ∨ s.H = []))) := Lib.hid (fun h => h.2.elim hg hH)
            clear hg
            have HRS : Hid (nextS e = ((drr.chooseS s.H e.s).turn, true, drr.chooseS s.H e.s)) := Lib.hid (by rw [HNS.out, if_neg HIF.out, if_neg hH])
            have HCH := Lib.hid (fun n => drr.choose_cons A.sp A.smb c3 D3 e.s s.H (.slice ao2 s.H.length c2) (wr.drewN n) (HSS.out.2.drewN n) (HHR.out.later ((Turns.refl _ wr).drewN n)) HOKH.out hH (by omega) HRGH.out)
            clear hH
            go_upto_region 15 with fail
            go_quiet (fail)
            go_wp2_with fail
            refine (HCH.out _).mono ?_
            rintro x w5 ⟨rfl, hl⟩
            have HL5 := Lib.hid hl
            clear hl HCH
            go_wp2
            go_ret2
            rw [HRS.out]
            exact ⟨rfl, HES.out.call HSS.out.1 HSS.out.2 HL5.out.1 (Turns.of_drewN HL5.out.2) (drr.Sim.choose _ _), (HN.out.mono (fun _ _ h => h.elim)).trans ((Turns.of_drewN HL5.out.2).mono (fun i _ hi => .inl hi))⟩
end Go.Proofs.YtcppibjllaablaaGreat.egr

/-
  egress.Out: count.
-/
namespace Go.Proofs.YtcppibjllaablaaGreat.egr
open Go.RowKit mem Go.Maps
open Go.Proofs.YtcppibjllaablaaGreat.itr
set_option linter.unusedVariables false

theorem Es.cr {w : World} {A : Ad} {k : Nat} {e : Eo} (h : Es w A k e) {n r : Int} (n0 : 0 ≤ n) (n1 : n ≤ 1099511627776) {w' : World} (t : Turns (· = A.o) w w') (hb : Blk w' A.o (cells ⟨e.frames, e.bytes, e.age, e.most, e.guard, n, r, e.L, e.s⟩ A) OB) : Es w' A k ⟨e.frames, e.bytes, e.age, e.most, e.guard, n, r, e.L, e.s⟩ := by
  have hc := h.cf
  exact h.self t hb rfl rfl rfl rfl rfl ⟨hc.f0, hc.f1, hc.b0, hc.b1, hc.a0, hc.a1, hc.m0, hc.m1, hc.g0, hc.g1, n0, n1⟩
/-- a sound, a picture has gone -/
def countE (e : Eo) (n : Int) (v : Bool) : Eo := if v = true then ⟨e.frames, e.bytes, e.age, e.most, e.guard, e.credit - n, 0, e.L, drr.takeS n e.s⟩ else ⟨e.frames, e.bytes, e.age, e.most, e.guard, e.credit - n, e.row + 1, e.L, e.s⟩
def FootO (A : Ad) (e : Eo) (k : Nat) : Prop := k = A.o ∨ drr.Foot A.sp A.smb e.s k
set_option maxRecDepth 100000 in
set_option maxHeartbeats 2000000 in
theorem count (A : Ad) (k : Nat) (e : Eo) (n : Int) (v : Bool) (w : World) (h : Es w A k e) (n0 : 0 ≤ n) (n1 : n ≤ e.credit) (r0 : 0 ≤ e.row) (r1 : e.row < 9223372036854775807) :
    Calls Tryz.prog 32 #[.pointer (some ⟨A.o, 0, none⟩), .int .i64 n, .bool v] w fun x w' => x = .returned (.tuple #[]) ∧ Es w' A k (countE e n v) ∧ Turns (FootO A e) w w' := by
  obtain ⟨⟨c0, c1, c2, c3, c4, c5, c6, c7, c8⟩, f7, f8⟩ := nine h.blk
  have k0 := h.cf.c0
  have k1 := h.cf.c1
  have s1 : IntKind.i64.wrap (e.credit - n) = e.credit - n := IntWalk.i64_in _ (by omega)
  have s2 : IntKind.i64.wrap (e.row + 1) = e.row + 1 := IntWalk.i64_in _ (by omega)
  have t1 : Turns (· = A.o) w (w.setCell ⟨A.o, 7, none⟩ (.int .i64 (e.credit - n))) := Turns.setCell (S := (· = A.o)) (Turns.refl _ w) (p := ⟨A.o, 7, none⟩) (.inl rfl) _
  have hb1 : Blk (w.setCell ⟨A.o, 7, none⟩ (.int .i64 (e.credit - n))) A.o (cells ⟨e.frames, e.bytes, e.age, e.most, e.guard, e.credit - n, e.row, e.L, e.s⟩ A) OB := h.blk.set 7 _
  have h1 := h.cr (n := e.credit - n) (r := e.row) (by omega) (by omega) t1 hb1
  have HT1 := Lib.hid t1
  have H1 := Lib.hid h1
  clear h h1 t1 hb1
  cases v with
  | false =>
    have HE : Hid (countE e n false = ⟨e.frames, e.bytes, e.age, e.most, e.guard, e.credit - n, e.row + 1, e.L, e.s⟩) := Lib.hid rfl
    go_enter Tryz.func32, Tryz.ntmps32
    go_upto_region 1 with fail
    clear c0 c1 c2 c3 c4 c5 c6 c7 c8 f7 f8
    generalize w.setCell ⟨A.o, 7, none⟩ (.int .i64 (e.credit - n)) = w1 at *
    obtain ⟨⟨c0, c1, c2, c3, c4, c5, c6, c7, c8⟩, f7, f8⟩ := nine H1.out.blk
    go_wp2
    refine bodyPost_ret (results_none rfl _ _ _) rfl ?_
    have t2 : Turns (· = A.o) w1 (w1.setCell ⟨A.o, 8, none⟩ (.int .i64 (e.row + 1))) := Turns.setCell (S := (· = A.o)) (Turns.refl _ w1) (p := ⟨A.o, 8, none⟩) (.inl rfl) _
    have hb2 : Blk (w1.setCell ⟨A.o, 8, none⟩ (.int .i64 (e.row + 1))) A.o (cells ⟨e.frames, e.bytes, e.age, e.most, e.guard, e.credit - n, e.row + 1, e.L, e.s⟩ A) OB := H1.out.blk.set 8 _
    refine ⟨rfl, by rw [HE.out]; exact H1.out.cr (by omega) (by omega) t2 hb2, ?_⟩
    exact (HT1.out.mono (fun i _ hi => .inl hi)).trans (t2.mono (fun i _ hi => .inl (.inl hi)))
  | true =>
    have HE : Hid (countE e n true = ⟨e.frames, e.bytes, e.age, e.most, e.guard, e.credit - n, 0, e.L, drr.takeS n e.s⟩) := Lib.hid rfl
    go_enter Tryz.func32, Tryz.ntmps32
    go_upto_region 1 with fail
    clear c0 c1 c2 c3 c4 c5 c6 c7 c8 f7 f8
    generalize w.setCell ⟨A.o, 7, none⟩ (.int .i64 (e.credit - n)) = w1 at *
    obtain ⟨⟨c0, c1, c2, c3, c4, c5, c6, c7, c8⟩, f7, f8⟩ := nine H1.out.blk
    obtain ⟨c, D, hc, hss⟩ := H1.out.sch
    have HSS := Lib.hid (And.intro hc hss)
    have HTK := Lib.hid (drr.take A.sp A.smb c D e.s n w1 hss (by omega))
    clear hss hc
    go_wp2_with fail
    refine HTK.out.mono ?_
    rintro x w2 ⟨rfl, hl⟩
    have HL := Lib.hid hl
    have H2 := Lib.hid (H1.out.call HSS.out.1 HSS.out.2 hl.1 hl.2 (drr.Sim.take _ _))
    clear hl HTK c0 c1 c2 c3 c4 c5 c6 c7 c8 f7 f8
    obtain ⟨⟨c0, c1, c2, c3, c4, c5, c6, c7, c8⟩, f7, f8⟩ := nine H2.out.blk
    go_wp2
    go_end0
    have t2 : Turns (· = A.o) w2 (w2.setCell ⟨A.o, 8, none⟩ (.int .i64 0)) := Turns.setCell (S := (· = A.o)) (Turns.refl _ w2) (p := ⟨A.o, 8, none⟩) (.inl rfl) _
    have hb2 : Blk (w2.setCell ⟨A.o, 8, none⟩ (.int .i64 0)) A.o (cells ⟨e.frames, e.bytes, e.age, e.most, e.guard, e.credit - n, 0, e.L, drr.takeS n e.s⟩ A) OB := H2.out.blk.set 8 _
    refine ⟨rfl, by rw [HE.out]; exact H2.out.cr (by omega) (by omega) t2 hb2, ?_⟩
    exact ((HT1.out.mono (fun i _ hi => .inl hi)).trans (HL.out.2.mono (fun i _ hi => .inl (.inr hi)))).trans (t2.mono (fun i _ hi => .inl (.inl hi)))
end Go.Proofs.YtcppibjllaablaaGreat.egr

/-
  egress.Out: what its calls leave of everything else.
-/
namespace Go.Proofs.YtcppibjllaablaaGreat.egr
open Go.RowKit mem Go.Maps
open Go.Proofs.YtcppibjllaablaaGreat.itr
set_option linter.unusedVariables false

/-- all of an outlet lies at b or behind it -/
structure Lo (b : Nat) (A : Ad) (e : Eo) : Prop where
  o : b ≤ A.o
  m : b ≤ A.mb
  s : b ≤ A.sp
  t : b ≤ A.smb
  q : ∀ f ∈ e.L, b ≤ f.qb ∧ ∀ x, f.pv.ownBlock = some x → b ≤ x
  g : ∀ f ∈ e.s.L, b ≤ f.b
theorem Made.lo {w w' : World} {A : Ad} {k : Nat} {e : Eo} (h : Made w w' A k e) : Lo w.heap.size A e := ⟨h.o0, h.m0, h.s0, h.t0, fun f hf => (h.f0 f hf).2, h.g0⟩
theorem Lo.setQ {b : Nat} {A : Ad} {e : Eo} {f : Ef} {w : World} (h : Lo b A e) (hf : f ∈ e.L) (hw : b ≤ w.heap.size) {pv' : Value} {q' : que.Q} (hl : pv'.ownBlock = f.pv.ownBlock ∨ ∃ g, pv'.ownBlock = some g ∧ w.heap.size ≤ g) {c r : Int} : Lo b A ⟨e.frames, e.bytes, e.age, e.most, e.guard, c, r, setQ e.L f.id pv' q', e.s⟩ := by
  refine ⟨h.o, h.m, h.s, h.t, fun g hg => ?_, h.g⟩
  obtain ⟨g', hg', rfl⟩ := setQ_mem hg
  split
  · refine ⟨(h.q g' hg').1, fun x hx => ?_⟩
    rcases hl with e2 | ⟨y, e2, hy⟩
    · exact (h.q f hf).2 x (by rw [← e2]; exact hx)
    · have hx' : some y = some x := by rw [← e2]; exact hx
      injection hx' with hx'
      omega
  · exact h.q g' hg'
theorem Lo.sim {b : Nat} {A : Ad} {e : Eo} (h : Lo b A e) {s' : drr.Sc} (k : drr.Sim e.s s') {c r : Int} : Lo b A ⟨e.frames, e.bytes, e.age, e.most, e.guard, c, r, e.L, s'⟩ := by
  refine ⟨h.o, h.m, h.s, h.t, h.q, fun g hg => ?_⟩
  obtain ⟨_, F, e2⟩ := k
  have hg2 : g ∈ s'.L := hg
  rw [e2] at hg2
  obtain ⟨g', hg', rfl⟩ := drr.upd_mem hg2
  exact h.g g' hg'
/-- what is of another type stays; so do other maps; nothing ahead of b turns -/
structure Sf (b : Nat) (A : Ad) (w w' : World) : Prop where
  t : Turns (fun i => b ≤ i) w w'
  c : ∀ (r : Nat) (cs : Array Value) (T : TypeId), Blk w r cs T → T ≠ OB → T ≠ 170 → T ≠ 67 → T ≠ 174 → T ≠ 178 → w'.heap[r]? = w.heap[r]?
section
variable {b : Nat} {A : Ad} {w w1 w2 w' : World} {k : Nat} {e : Eo}
theorem Sf.refl (b : Nat) (A : Ad) (w : World) : Sf b A w w := ⟨Turns.refl _ _, fun _ _ _ _ _ _ _ _ _ => rfl⟩
theorem Sf.trans (h : Sf b A w w1) (h2 : Sf b A w1 w2) : Sf b A w w2 :=
  ⟨h.t.trans (h2.t.mono (fun _ _ hi => .inl hi)), fun r cs T hb a1 a2 a3 a4 a5 => by
    have e1 := h.c r cs T hb a1 a2 a3 a4 a5
    have hb1 : Blk w1 r cs T := by unfold Blk at hb ⊢; rw [e1]; exact hb
    rw [h2.c r cs T hb1 a1 a2 a3 a4 a5, e1]⟩
theorem Sf.new (n : New w w') : Sf b A w w' := ⟨n.mono (fun _ _ h => h.elim), fun r cs T hb _ _ _ _ _ => n.block r hb.lt (fun h => h)⟩
theorem Sf.of (t : Turns (fun i => b ≤ i) w w') {S : Nat → Prop} (t2 : Turns S w w') (hS : ∀ (r : Nat) (cs : Array Value) (T : TypeId), Blk w r cs T → T ≠ OB → T ≠ 170 → T ≠ 67 → T ≠ 174 → T ≠ 178 → ¬ S r) : Sf b A w w' :=
  ⟨t, fun r cs T hb a1 a2 a3 a4 a5 => t2.block r hb.lt (hS r cs T hb a1 a2 a3 a4 a5)⟩
theorem Sf.out (h : Es w A k e) (l : Lo b A e) (t : Turns (· = A.o) w w') : Sf b A w w' :=
  Sf.of (t.mono (fun i _ hi => by rw [hi]; exact l.o)) t (fun r cs T hb a1 _ _ _ _ hi => blk_ne hb h.blk a1 hi)
theorem Sf.que (h : Es w A k e) (l : Lo b A e) {f : Ef} (hf : f ∈ e.L) (t : Turns (que.Foot f.qb f.pv) w w') : Sf b A w w' :=
  Sf.of (t.mono (fun i _ hi => by rcases hi with hi | hi; rw [hi]; exact (l.q f hf).1; exact (l.q f hf).2 i hi)) t (fun r cs T hb _ a2 a3 _ _ hi => by
    rcases hi with hi | hi
    · exact blk_ne hb (h.qs f hf).blk a2 hi
    · exact own_ne (h.qs f hf).own hb (fun e3 => a3 e3.symm) hi)
theorem drr_lo (l : Lo b A e) : ∀ i, drr.Foot A.sp A.smb e.s i → b ≤ i := fun i hi => by
  rcases hi with hi | hi | ⟨f, hf, hi⟩
  · rw [hi]; exact l.s
  · rw [hi]; exact l.t
  · rw [← hi]; exact l.g f hf
theorem drr_off (h : Es w A k e) {r : Nat} {cs : Array Value} {T : TypeId} (hb : Blk w r cs T) (a4 : T ≠ 174) (a5 : T ≠ 178) : ¬ drr.Foot A.sp A.smb e.s r := fun hi => by
  obtain ⟨c, D, _, hss⟩ := h.sch
  rcases hi with hi | hi | ⟨f, hf, hi⟩
  · exact blk_ne hb hss.blk a4 hi
  · exact ownsMap_ne hss.map hb hi.symm
  · exact blk_ne hb (hss.fb f hf) a5 hi.symm
theorem Sf.drr (h : Es w A k e) (l : Lo b A e) (t : Turns (drr.Foot A.sp A.smb e.s) w w') : Sf b A w w' :=
  Sf.of (t.mono (fun i _ hi => drr_lo l i hi)) t (fun r cs T hb _ _ _ a4 a5 => drr_off h hb a4 a5)
theorem Sf.outdrr (h : Es w A k e) (l : Lo b A e) (t : Turns (FootO A e) w w') : Sf b A w w' :=
  Sf.of (t.mono (fun i _ hi => by rcases hi with hi | hi; rw [hi]; exact l.o; exact drr_lo l i hi)) t (fun r cs T hb a1 _ _ a4 a5 hi => by
    rcases hi with hi | hi
    · exact blk_ne hb h.blk a1 hi
    · exact drr_off h hb a4 a5 hi)
theorem Sf.maps (h : Es w A k e) (l : Lo b A e) (t : Turns (fun i => i = A.mb ∨ i = A.smb) w w') : Sf b A w w' := by
  obtain ⟨c, D, _, hm, _⟩ := h.map
  obtain ⟨c2, D2, _, hss⟩ := h.sch
  exact Sf.of (t.mono (fun i _ hi => by rcases hi with hi | hi; rw [hi]; exact l.m; rw [hi]; exact l.t)) t (fun r cs T hb _ _ _ _ _ hi => by
    rcases hi with hi | hi
    · exact ownsMap_ne hm hb hi.symm
    · exact ownsMap_ne hss.map hb hi.symm)
/-- a row of another type -/
theorem Sf.row (h : Sf b A w w') {α : Type} {E : Enc α} {T : TypeId} {v : Value} {l : List α} (ho : Owns E T w v l) (a1 : T ≠ OB) (a2 : T ≠ 170) (a3 : T ≠ 67) (a4 : T ≠ 174) (a5 : T ≠ 178) : Owns E T w' v l := by
  refine ⟨ho.1, ?_⟩
  rcases ho.2 with h0 | ⟨g, cap, cur, rfl, hb, hg, r⟩
  · exact .inl h0
  · exact .inr ⟨g, cap, cur, rfl, hb, by rw [h.c g cur T hg a1 a2 a3 a4 a5]; exact hg, r⟩
theorem Sf.blk (h : Sf b A w w') {r : Nat} {cs : Array Value} {T : TypeId} (hb : Blk w r cs T) (a1 : T ≠ OB) (a2 : T ≠ 170) (a3 : T ≠ 67) (a4 : T ≠ 174) (a5 : T ≠ 178) : Blk w' r cs T := by
  have e := h.c r cs T hb a1 a2 a3 a4 a5
  unfold Blk at hb ⊢
  rw [e]; exact hb
end
end Go.Proofs.YtcppibjllaablaaGreat.egr

/-
  egress.Out: what a Run does, item by item. Pure.
-/
namespace Go.Proofs.YtcppibjllaablaaGreat.egr
open Go.RowKit mem Go.Maps
open Go.Proofs.YtcppibjllaablaaGreat.itr
set_option linter.unusedVariables false

theorem choose_mem {s : drr.Sc} {l : drr.Hs} (hl : l ≠ []) (h : s.ok) (ok : drr.Ok s l) : (drr.chooseS l s).turn ∈ drr.ids l := by
  obtain ⟨h1, h2, h3⟩ := h.fir hl ok
  have hid : drr.ids l ≠ [] := fun e => hl (by unfold drr.ids at e; exact List.map_eq_nil_iff.1 e)
  cases l with
  | nil => exact absurd rfl hl
  | cons x t =>
    show (drr.runS (x :: t) (drr.firS (x :: t) s)).turn ∈ _
    unfold drr.runS
    split
    · rw [(drr.grant_turn _).1]
      exact drr.nextId_mem hid _
    · rw [(drr.grant_turn _).1]
      exact h2
/-- the flow whose turn it is has an item -/
theorem Es.next_flow {w : World} {A : Ad} {k : Nat} {e : Eo} (h : Es w A k e) (hn : (nextS e).2.1 = true) : ∃ f ∈ e.L, f.id = (nextS e).1 ∧ ∃ x, f.q.L[0]? = some x := by
  have hk := nx_ok e.L (idS e.L)
  obtain ⟨c, D, _, hss⟩ := h.sch
  have hok := h.ok_heads
  unfold nextS at hn ⊢
  generalize nx e.L (idS e.L) = s at *
  split
  next h1 =>
    obtain ⟨y, hy⟩ := Option.isSome_iff_exists.1 h1.1
    obtain ⟨f, hf, h2, _, h3⟩ := hk.b y hy
    exact ⟨f, hf, by rw [hy]; exact h2, _, h3⟩
  next h1 =>
    rw [if_neg h1] at hn
    split
    next h2 => rw [if_pos h2] at hn; cases hn
    next h2 =>
      have hm := choose_mem h2 hss.ok hok
      obtain ⟨y, hy, he⟩ := List.mem_map.1 hm
      obtain ⟨f, hf, h3, _, x, h4, _⟩ := hk.h y hy
      exact ⟨f, hf, h3.trans he, x, h4⟩
theorem next_sim (e : Eo) : drr.Sim e.s (nextS e).2.2 := by
  unfold nextS
  split
  · exact drr.Sim.refl _
  · split
    · exact drr.Sim.choose _ _
    · exact drr.Sim.choose _ _
def afterN (e : Eo) : Eo := ⟨e.frames, e.bytes, e.age, e.most, e.guard, e.credit, e.row, e.L, (nextS e).2.2⟩
def goneE (e : Eo) (f : Ef) (x : que.It) (pv : Value) : Eo := countE ⟨e.frames, e.bytes, e.age, e.most, e.guard, e.credit, e.row, setQ e.L f.id pv ⟨f.q.frames, f.q.most, f.q.L.drop 1, f.q.broken⟩, (nextS e).2.2⟩ x.size f.video
inductive Steps : Eo → List Snt → Eo → Prop
  | nil (e : Eo) : Steps e [] e
  | snoc {e : Eo} {l : List Snt} {e1 : Eo} {f : Ef} {x : que.It} (pv : Value) : Steps e l e1 → (nextS e1).2.1 = true → f ∈ e1.L → f.id = (nextS e1).1 → f.q.L[0]? = some x → x.size ≤ e1.credit → Steps e (l ++ [⟨f.id, x⟩]) (goneE e1 f x pv)
/-- a Run: it ends where nothing waits, or where there is no credit for what is next -/
def Ran (e : Eo) (l : List Snt) (e' : Eo) : Prop := ∃ e1, Steps e l e1 ∧ e' = afterN e1 ∧ ((nextS e1).2.1 = false ∨ ∃ f x, (nextS e1).2.1 = true ∧ f ∈ e1.L ∧ f.id = (nextS e1).1 ∧ f.q.L[0]? = some x ∧ e1.credit < x.size)
/-- how many items wait -/
def Tot (L : List Ef) : Nat := (L.map (fun f => f.q.L.length)).sum
theorem tot_same {L : List Ef} {id : Int} {pv : Value} {q : que.Q} (h : ∀ f ∈ L, f.id ≠ id) : setQ L id pv q = L := by
  unfold setQ
  have : ∀ f ∈ L, (if f.id = id then (⟨f.id, f.fb, f.video, f.qb, pv, q⟩ : Ef) else f) = f := fun f hf => if_neg (h f hf)
  rw [List.map_congr_left this, List.map_id']
theorem tot_set {L : List Ef} (h : Ap L) {f : Ef} (hf : f ∈ L) (pv : Value) (q : que.Q) : Tot (setQ L f.id pv q) + f.q.L.length = Tot L + q.L.length := by
  induction L with
  | nil => cases hf
  | cons g l ih =>
    obtain ⟨h1, h2⟩ := List.pairwise_cons.1 h
    have hs : setQ (g :: l) f.id pv q = (if g.id = f.id then (⟨g.id, g.fb, g.video, g.qb, pv, q⟩ : Ef) else g) :: setQ l f.id pv q := rfl
    rcases List.mem_cons.1 hf with e | hf
    · subst e
      have hl : setQ l f.id pv q = l := tot_same (fun y hy e2 => (h1 y hy).1 e2.symm)
      rw [hs, if_pos rfl, hl]
      unfold Tot
      rw [List.map_cons, List.map_cons, List.sum_cons, List.sum_cons]
      show q.L.length + _ + f.q.L.length = f.q.L.length + _ + q.L.length
      omega
    · have hne : ¬ g.id = f.id := fun e2 => (h1 f hf).1 e2
      have := ih h2 hf
      rw [hs, if_neg hne]
      unfold Tot at this ⊢
      rw [List.map_cons, List.map_cons, List.sum_cons, List.sum_cons]
      omega
theorem setQ_idm (L : List Ef) (id : Int) (pv : Value) (q : que.Q) : (setQ L id pv q).map (·.id) = L.map (·.id) := by
  unfold setQ
  rw [List.map_map]
  refine List.map_congr_left (fun f hf => ?_)
  show (if f.id = id then (⟨f.id, f.fb, f.video, f.qb, pv, q⟩ : Ef) else f).id = f.id
  split <;> rfl
theorem setQ_idS (L : List Ef) (id : Int) (pv : Value) (q : que.Q) : idS (setQ L id pv q) = idS L := by unfold idS; rw [setQ_idm]
theorem count_L (e : Eo) (n : Int) (v : Bool) : (countE e n v).L = e.L := by unfold countE; split <;> rfl
theorem count_row (e : Eo) (n : Int) (v : Bool) (h : 0 ≤ e.row) : 0 ≤ (countE e n v).row ∧ (countE e n v).row ≤ e.row + 1 := by
  unfold countE
  split
  · exact ⟨Int.le_refl _, by show (0 : Int) ≤ _; omega⟩
  · exact ⟨by show 0 ≤ e.row + 1; omega, Int.le_refl _⟩
theorem gone_L (e : Eo) (f : Ef) (x : que.It) (pv : Value) : (goneE e f x pv).L = setQ e.L f.id pv ⟨f.q.frames, f.q.most, f.q.L.drop 1, f.q.broken⟩ := count_L _ _ _
theorem gone_row (e : Eo) (f : Ef) (x : que.It) (pv : Value) (h : 0 ≤ e.row) : 0 ≤ (goneE e f x pv).row ∧ (goneE e f x pv).row ≤ e.row + 1 := count_row _ _ _ h
theorem Lo.count {b : Nat} {A : Ad} {e : Eo} (h : Lo b A e) (n : Int) (v : Bool) : Lo b A (countE e n v) := by
  unfold countE
  split
  · exact h.sim (drr.Sim.take _ _)
  · exact ⟨h.o, h.m, h.s, h.t, h.q, h.g⟩
end Go.Proofs.YtcppibjllaablaaGreat.egr

/-
  egress.Out: a Run as a function, of what an outlet is without its places in memory. Pure.
-/
namespace Go.Proofs.YtcppibjllaablaaGreat.egr
open Go.RowKit mem Go.Maps
open Go.Proofs.YtcppibjllaablaaGreat.itr
set_option linter.unusedVariables false

def eB (f : drr.Fl) : drr.Fl := ⟨f.id, 0, f.share, f.left⟩
def eS (s : drr.Sc) : drr.Sc := ⟨s.most, s.L.map eB, s.turn, s.g⟩
theorem eB_upd (L : List drr.Fl) (F G : drr.Fl → Int) (h : ∀ f, F f = G (eB f)) : (drr.upd L F).map eB = drr.upd (L.map eB) G := by
  unfold drr.upd
  rw [List.map_map, List.map_map]
  refine List.map_congr_left (fun f _ => ?_)
  show eB ⟨f.id, f.b, f.share, F f⟩ = ⟨(eB f).id, (eB f).b, (eB f).share, G (eB f)⟩
  rw [h f]; rfl
theorem eB_fnd (L : List drr.Fl) (id : Int) : drr.fnd (L.map eB) id = (drr.fnd L id).map eB := by
  unfold drr.fnd
  rw [List.find?_map]
  rfl
theorem eS_left (s : drr.Sc) (id : Int) : drr.leftOf (eS s) id = drr.leftOf s id := by
  show (match drr.fnd (s.L.map eB) id with | some f => f.left | none => 0) = drr.leftOf s id
  unfold drr.leftOf
  rw [eB_fnd]
  cases drr.fnd s.L id <;> rfl
theorem eS_grant (s : drr.Sc) : eS (drr.grantS s) = drr.grantS (eS s) := by
  unfold drr.grantS
  show eS (if s.g = true then s else _) = if s.g = true then eS s else _
  split
  · rfl
  · show (⟨s.most, (drr.upd s.L _).map eB, s.turn, true⟩ : drr.Sc) = ⟨s.most, drr.upd (s.L.map eB) _, s.turn, true⟩
    exact congrArg (fun L => (⟨s.most, L, s.turn, true⟩ : drr.Sc)) (eB_upd s.L (fun f => if f.id = s.turn then f.left + f.share else f.left) (fun f => if f.id = s.turn then f.left + f.share else f.left) (fun f => rfl))
theorem eS_pass (l : drr.Hs) (s : drr.Sc) : eS (drr.passS l s) = drr.passS l (eS s) := rfl
theorem eS_beg (l : drr.Hs) (s : drr.Sc) : eS (drr.begS l s) = drr.begS l (eS s) := by
  show (⟨s.most, (drr.upd s.L _).map eB, s.turn, s.g⟩ : drr.Sc) = ⟨s.most, drr.upd (s.L.map eB) _, s.turn, s.g⟩
  exact congrArg (fun L => (⟨s.most, L, s.turn, s.g⟩ : drr.Sc)) (eB_upd s.L (drr.forgetF l) (drr.forgetF l) (fun f => rfl))
theorem eS_low (l : drr.Hs) (s : drr.Sc) : drr.lowS l (eS s) = drr.lowS l s := by
  unfold drr.lowS
  rw [← eS_grant, eS_left]
  rfl
theorem eS_run (l : drr.Hs) (s : drr.Sc) : eS (drr.runS l s) = drr.runS l (eS s) := by
  unfold drr.runS
  rw [eS_low]
  split
  · rw [eS_grant, eS_pass, eS_grant]
  · rw [eS_grant]
theorem eS_fir (l : drr.Hs) (s : drr.Sc) : eS (drr.firS l s) = drr.firS l (eS s) := by
  unfold drr.firS
  show eS (if s.turn ∈ drr.ids l then _ else _) = if s.turn ∈ drr.ids l then _ else _
  split
  · exact eS_beg _ _
  · rw [eS_pass, eS_beg]
theorem eS_choose (l : drr.Hs) (s : drr.Sc) : eS (drr.chooseS l s) = drr.chooseS l (eS s) := by
  cases l with
  | nil =>
    show (⟨s.most, (drr.upd s.L _).map eB, s.turn, false⟩ : drr.Sc) = ⟨s.most, drr.upd (s.L.map eB) _, s.turn, false⟩
    exact congrArg (fun L => (⟨s.most, L, s.turn, false⟩ : drr.Sc)) (eB_upd s.L (drr.forgetF []) (drr.forgetF []) (fun f => rfl))
  | cons x t =>
    show eS (drr.runS (x :: t) (drr.firS (x :: t) s)) = drr.runS (x :: t) (drr.firS (x :: t) (eS s))
    rw [eS_run, eS_fir]
theorem eS_take (n : Int) (s : drr.Sc) : eS (drr.takeS n s) = drr.takeS n (eS s) := by
  unfold drr.takeS
  rw [eS_left]
  show eS (if s.g = true ∧ 0 ≤ n ∧ n ≤ drr.leftOf s s.turn then _ else s) = if s.g = true ∧ 0 ≤ n ∧ n ≤ drr.leftOf s s.turn then _ else _
  split
  · show (⟨s.most, (drr.upd s.L _).map eB, s.turn, s.g⟩ : drr.Sc) = ⟨s.most, drr.upd (s.L.map eB) _, s.turn, s.g⟩
    exact congrArg (fun L => (⟨s.most, L, s.turn, s.g⟩ : drr.Sc)) (eB_upd s.L (fun f => if f.id = s.turn then f.left - n else f.left) (fun f => if f.id = s.turn then f.left - n else f.left) (fun f => rfl))
  · rfl

def eF (f : Ef) : Ef := ⟨f.id, 0, f.video, 0, .slice none 0 0, f.q⟩
def eE (e : Eo) : Eo := ⟨e.frames, e.bytes, e.age, e.most, e.guard, e.credit, e.row, e.L.map eF, eS e.s⟩
theorem eF_fnd (L : List Ef) (id : Int) : fnd (L.map eF) id = (fnd L id).map eF := by
  unfold fnd
  rw [List.find?_map]
  rfl
theorem eF_nx (L : List Ef) (l : List Int) : nx (L.map eF) l = nx L l := by
  have h : stepN (L.map eF) = stepN L := by
    funext s id
    unfold stepN
    rw [eF_fnd]
    cases fnd L id <;> rfl
  unfold nx
  rw [h]
theorem eF_setQ (L : List Ef) (id : Int) (pv pv' : Value) (q : que.Q) : (setQ L id pv q).map eF = (setQ (L.map eF) id pv' q).map eF := by
  unfold setQ
  rw [List.map_map, List.map_map, List.map_map]
  refine List.map_congr_left (fun f _ => ?_)
  show eF (if f.id = id then _ else f) = eF (if f.id = id then _ else eF f)
  split <;> rfl
def nextI (ids : List Int) (e : Eo) : Int × Bool × drr.Sc :=
  if (nx e.L ids).b.isSome = true ∧ (e.row < e.guard ∨ (nx e.L ids).H = []) then ((sdef (nx e.L ids).b).id, true, e.s)
  else if (nx e.L ids).H = [] then (0, false, drr.chooseS [] e.s)
  else ((drr.chooseS (nx e.L ids).H e.s).turn, true, drr.chooseS (nx e.L ids).H e.s)
theorem nextI_er (ids : List Int) (e : Eo) : nextI ids (eE e) = ((nextI ids e).1, (nextI ids e).2.1, eS (nextI ids e).2.2) := by
  unfold nextI
  show (if (nx (e.L.map eF) ids).b.isSome = true ∧ (e.row < e.guard ∨ (nx (e.L.map eF) ids).H = []) then ((sdef (nx (e.L.map eF) ids).b).id, true, eS e.s)
  else if (nx (e.L.map eF) ids).H = [] then (0, false, drr.chooseS [] (eS e.s))
  else ((drr.chooseS (nx (e.L.map eF) ids).H (eS e.s)).turn, true, drr.chooseS (nx (e.L.map eF) ids).H (eS e.s))) = _
  rw [eF_nx, ← eS_choose, ← eS_choose]
  split
  · rfl
  · split <;> rfl
def afterI (ids : List Int) (e : Eo) : Eo := ⟨e.frames, e.bytes, e.age, e.most, e.guard, e.credit, e.row, e.L, (nextI ids e).2.2⟩
theorem after_er (ids : List Int) (e : Eo) : afterI ids (eE e) = eE (afterI ids e) := by
  unfold afterI
  rw [nextI_er]; rfl
def goneI (ids : List Int) (e : Eo) (f : Ef) (x : que.It) : Eo := countE ⟨e.frames, e.bytes, e.age, e.most, e.guard, e.credit, e.row, setQ e.L f.id (.slice none 0 0) ⟨f.q.frames, f.q.most, f.q.L.drop 1, f.q.broken⟩, (nextI ids e).2.2⟩ x.size f.video
theorem gone_er (e : Eo) (f : Ef) (x : que.It) (pv : Value) : eE (goneE e f x pv) = eE (goneI (idS e.L) (eE e) (eF f) x) := by
  unfold goneE goneI countE
  rw [nextI_er]
  show eE (if f.video = true then _ else _) = eE (if f.video = true then _ else _)
  have h1 := eF_setQ e.L f.id pv (.slice none 0 0) ⟨f.q.frames, f.q.most, f.q.L.drop 1, f.q.broken⟩
  split
  · unfold eE
    dsimp only
    rw [h1, eS_take, eS_take]
    congr 1
    unfold eS
    dsimp only
    rw [List.map_map]
    congr 1
  · unfold eE
    dsimp only
    rw [h1]
    congr 1
    unfold eS
    dsimp only
    rw [List.map_map]
    congr 1
/-- one item goes -/
def stepR (ids : List Int) (e : Eo) : Option (Snt × Eo) :=
  if (nextI ids e).2.1 = true then
    match fnd e.L (nextI ids e).1 with
    | none => none
    | some f => match f.q.L with
      | [] => none
      | x :: _ => if e.credit < x.size then none else some (⟨f.id, x⟩, eE (goneI ids e f x))
  else none
def runR (ids : List Int) : Nat → Eo → List Snt × Eo
  | 0, e => ([], afterI ids e)
  | n + 1, e => match stepR ids e with
    | none => ([], afterI ids e)
    | some (s, e') => (s :: (runR ids n e').1, (runR ids n e').2)
def Nd (L : List Ef) : Prop := (L.map (·.id)).Pairwise (· ≠ ·)
theorem Ap.nd {L : List Ef} (h : Ap L) : Nd L := List.pairwise_map.2 (h.imp (fun h => h.1))
theorem Nd.fnd {L : List Ef} (h : Nd L) {f : Ef} (hf : f ∈ L) : egr.fnd L f.id = some f := by
  have h2 := List.pairwise_map.1 h
  clear h
  induction L with
  | nil => cases hf
  | cons g l ih =>
    obtain ⟨h3, h4⟩ := List.pairwise_cons.1 h2
    unfold egr.fnd at ih ⊢
    rw [List.find?_cons]
    rcases List.mem_cons.1 hf with e | hf
    · subst e; simp
    · have : (g.id == f.id) = false := by simpa using h3 f hf
      rw [this]
      exact ih hf h4
theorem Steps.nd {e e1 : Eo} {l : List Snt} (h : Steps e l e1) (hn : Nd e.L) : Nd e1.L ∧ idS e1.L = idS e.L := by
  induction h with
  | nil => exact ⟨hn, rfl⟩
  | snoc pv h1 h2 h3 h4 h5 h6 ih =>
    obtain ⟨i1, i2⟩ := ih
    refine ⟨?_, by rw [gone_L, setQ_idS]; exact i2⟩
    unfold Nd at i1 ⊢
    rw [gone_L, setQ_idm]
    exact i1
theorem eE_id (e : Eo) : idS (eE e).L = idS e.L := by
  show idS (e.L.map eF) = _
  unfold idS
  rw [List.map_map]; rfl
theorem stepR_some {e1 : Eo} (hn : Nd e1.L) {f : Ef} {x : que.It} (pv : Value) (h2 : (nextS e1).2.1 = true) (h3 : f ∈ e1.L) (h4 : f.id = (nextS e1).1) (h5 : f.q.L[0]? = some x) (h6 : x.size ≤ e1.credit) : stepR (idS e1.L) (eE e1) = some (⟨f.id, x⟩, eE (goneE e1 f x pv)) := by
  have hs : nextS e1 = nextI (idS e1.L) e1 := rfl
  unfold stepR
  rw [nextI_er, ← hs]
  dsimp only
  rw [if_pos h2, ← h4]
  show (match egr.fnd (e1.L.map eF) f.id with | none => none | some f' => _) = _
  rw [eF_fnd, hn.fnd h3, gone_er e1 f x pv]
  show (match f.q.L with | [] => none | y :: _ => _) = _
  cases hq : f.q.L with
  | nil => rw [hq] at h5; cases h5
  | cons y t =>
    rw [hq] at h5
    obtain rfl : y = x := by simpa using h5
    show (if e1.credit < y.size then none else _) = _
    rw [if_neg (by omega)]
    rfl
theorem stepR_none {e1 : Eo} (hn : Nd e1.L) (h : (nextS e1).2.1 = false ∨ ∃ f x, (nextS e1).2.1 = true ∧ f ∈ e1.L ∧ f.id = (nextS e1).1 ∧ f.q.L[0]? = some x ∧ e1.credit < x.size) : stepR (idS e1.L) (eE e1) = none := by
  have hs : nextS e1 = nextI (idS e1.L) e1 := rfl
  unfold stepR
  rw [nextI_er, ← hs]
  dsimp only
  rcases h with h | ⟨f, x, h2, h3, h4, h5, h6⟩
  · rw [if_neg (by rw [h]; decide)]
  · rw [if_pos h2, ← h4]
    show (match egr.fnd (e1.L.map eF) f.id with | none => none | some f' => _) = _
    rw [eF_fnd, hn.fnd h3]
    show (match f.q.L with | [] => none | y :: _ => _) = _
    cases hq : f.q.L with
    | nil => rfl
    | cons y t =>
      rw [hq] at h5
      obtain rfl : y = x := by simpa using h5
      show (if e1.credit < y.size then none else _) = _
      rw [if_pos h6]
theorem Steps.run {e e1 : Eo} {l : List Snt} (h : Steps e l e1) (hn : Nd e.L) : ∀ m, runR (idS e.L) (l.length + m) (eE e) = (l ++ (runR (idS e.L) m (eE e1)).1, (runR (idS e.L) m (eE e1)).2) := by
  induction h with
  | nil => intro m; simp
  | snoc pv h1 h2 h3 h4 h5 h6 ih =>
    intro m
    obtain ⟨i1, i2⟩ := h1.nd hn
    have hst := stepR_some i1 pv h2 h3 h4 h5 h6
    rw [i2] at hst
    rw [List.length_append, List.length_singleton, Nat.add_assoc, ih (1 + m), Nat.add_comm 1 m]
    show (_ ++ (match stepR _ _ with | none => _ | some (s, e') => _ : List Snt × Eo).1, (match stepR _ _ with | none => _ | some (s, e') => _ : List Snt × Eo).2) = _
    rw [hst]
    simp
/-- a Run is what the function says -/
theorem Ran.run {e e' : Eo} {l : List Snt} (h : Ran e l e') (hn : Nd e.L) (m : Nat) : runR (idS e.L) (l.length + m) (eE e) = (l, eE e') := by
  obtain ⟨e1, h1, rfl, h2⟩ := h
  obtain ⟨i1, i2⟩ := h1.nd hn
  have hst := stepR_none i1 h2
  rw [i2] at hst
  have hs : afterI (idS e.L) (eE e1) = eE (afterN e1) := by rw [after_er, ← i2]; rfl
  rw [h1.run hn]
  cases m with
  | zero =>
    show (l ++ [], afterI (idS e.L) (eE e1)) = _
    rw [List.append_nil, hs]
  | succ m =>
    show (l ++ (match stepR _ _ with | none => _ | some (s, e') => _ : List Snt × Eo).1, (match stepR _ _ with | none => _ | some (s, e') => _ : List Snt × Eo).2) = _
    rw [hst]
    show (l ++ [], afterI (idS e.L) (eE e1)) = _
    rw [List.append_nil, hs]
end Go.Proofs.YtcppibjllaablaaGreat.egr

/-
  AntiphonShares: two flows of pictures that always have something. Pure: the schedule (Dr), what a Run takes.
-/
namespace Go.Proofs.YtcppibjllaablaaGreat.egr
open Go.RowKit mem
open Go.Proofs.YtcppibjllaablaaGreat.itr
set_option linter.unusedVariables false

/-- the schedule of the flows 1 and 2, that have sent u1 and u2 -/
structure Dr (p q : Int) (s : drr.Sc) (u1 u2 : Int) : Prop where
  L : ∃ b1 b2 l1 l2, s.L = [⟨1, b1, p, l1⟩, ⟨2, b2, q, l2⟩] ∧ 0 ≤ l1 ∧ 0 ≤ l2 ∧
    ((s.turn = 0 ∧ s.g = false ∧ l1 = 0 ∧ l2 = 0 ∧ u1 = 0 ∧ u2 = 0) ∨
     (∃ c : Int, s.turn = 1 ∧ s.g = true ∧ u1 + l1 = (c + 1) * p ∧ u2 + l2 = c * q ∧ l1 < 40 + p ∧ l2 < 40) ∨
     (∃ c : Int, s.turn = 2 ∧ s.g = true ∧ u1 + l1 = (c + 1) * p ∧ u2 + l2 = (c + 1) * q ∧ l1 < 40 ∧ l2 < 40 + q))
theorem Dr.bound {p q u1 u2 : Int} {s : drr.Sc} (h : Dr p q s u1 u2) (hp : 40 ≤ p) (hq : 40 ≤ q) : u1 * q - u2 * p ≤ p * q + 40 * p + 40 * q ∧ -(u1 * q - u2 * p) ≤ p * q + 40 * p + 40 * q := by
  obtain ⟨b1, b2, l1, l2, _, h1, h2, h3⟩ := h.L
  have hpq : 0 ≤ p * q := Int.mul_nonneg (by omega) (by omega)
  rcases h3 with ⟨_, _, _, _, rfl, rfl⟩ | ⟨c, _, _, e1, e2, k1, k2⟩ | ⟨c, _, _, e1, e2, k1, k2⟩
  · simp only [Int.zero_mul]; omega
  · obtain rfl : u1 = (c + 1) * p - l1 := by omega
    obtain rfl : u2 = c * q - l2 := by omega
    have hd : ((c + 1) * p - l1) * q - (c * q - l2) * p = p * q - l1 * q + l2 * p := by
      rw [Int.sub_mul, Int.sub_mul, Int.add_mul, Int.add_mul, Int.one_mul, Int.mul_assoc, Int.mul_assoc, Int.mul_comm q p]
      omega
    rw [hd]
    have m1 : 0 ≤ l1 * q := Int.mul_nonneg h1 (by omega)
    have m2 : 0 ≤ l2 * p := Int.mul_nonneg h2 (by omega)
    have m3 : l1 * q ≤ (40 + p) * q := Int.mul_le_mul_of_nonneg_right (by omega) (by omega)
    have m4 : l2 * p ≤ 40 * p := Int.mul_le_mul_of_nonneg_right (by omega) (by omega)
    rw [Int.add_mul] at m3
    omega
  · obtain rfl : u1 = (c + 1) * p - l1 := by omega
    obtain rfl : u2 = (c + 1) * q - l2 := by omega
    have hd : ((c + 1) * p - l1) * q - ((c + 1) * q - l2) * p = l2 * p - l1 * q := by
      rw [Int.sub_mul, Int.sub_mul, Int.mul_assoc, Int.mul_assoc, Int.mul_comm q p]
      omega
    rw [hd]
    have m1 : 0 ≤ l1 * q := Int.mul_nonneg h1 (by omega)
    have m2 : 0 ≤ l2 * p := Int.mul_nonneg h2 (by omega)
    have m3 : l1 * q ≤ 40 * q := Int.mul_le_mul_of_nonneg_right (by omega) (by omega)
    have m4 : l2 * p ≤ (40 + q) * p := Int.mul_le_mul_of_nonneg_right (by omega) (by omega)
    rw [Int.add_mul, Int.mul_comm q p] at m4
    omega
abbrev H2 (z : Int) : drr.Hs := [(1, z), (2, z)]
theorem ids2 (z : Int) : drr.ids (H2 z) = [1, 2] := rfl
theorem next1 : drr.nextId [1, 2] 1 = 2 := by decide
theorem next2 : drr.nextId [1, 2] 2 = 1 := by decide
theorem next0 : drr.nextId [1, 2] 0 = 1 := by decide
theorem Dr.choose {p q u1 u2 z : Int} {s : drr.Sc} (h : Dr p q s u1 u2) (hp : 40 ≤ p) (hq : 40 ≤ q) (z1 : 1 ≤ z) (z2 : z ≤ 40) :
    Dr p q (drr.chooseS (H2 z) s) u1 u2 ∧ (((drr.chooseS (H2 z) s).turn = 1 ∧ Dr p q (drr.takeS z (drr.chooseS (H2 z) s)) (u1 + z) u2) ∨ ((drr.chooseS (H2 z) s).turn = 2 ∧ Dr p q (drr.takeS z (drr.chooseS (H2 z) s)) u1 (u2 + z))) := by
  obtain ⟨most, L, turn, g⟩ := s
  obtain ⟨b1, b2, l1, l2, hL, h1, h2, h3⟩ := h.L
  dsimp only at hL h3
  subst hL
  clear h
  have C : drr.chooseS (H2 z) ⟨most, [⟨1, b1, p, l1⟩, ⟨2, b2, q, l2⟩], turn, g⟩ = drr.runS (H2 z) (drr.firS (H2 z) ⟨most, [⟨1, b1, p, l1⟩, ⟨2, b2, q, l2⟩], turn, g⟩) := rfl
  have B : drr.begS (H2 z) ⟨most, [⟨1, b1, p, l1⟩, ⟨2, b2, q, l2⟩], turn, g⟩ = ⟨most, [⟨1, b1, p, l1⟩, ⟨2, b2, q, l2⟩], turn, g⟩ := by
    unfold drr.begS
    dsimp only
    rw [drr.upd_same]
    intro f hf
    unfold drr.forgetF
    rw [ids2]
    simp at hf
    rcases hf with rfl | rfl <;> rfl
  rw [C]
  rcases h3 with ⟨rfl, rfl, rfl, rfl, rfl, rfl⟩ | ⟨c, rfl, rfl, e1, e2, k1, k2⟩ | ⟨c, rfl, rfl, e1, e2, k1, k2⟩
  · have F : drr.firS (H2 z) ⟨most, [⟨1, b1, p, 0⟩, ⟨2, b2, q, 0⟩], 0, false⟩ = ⟨most, [⟨1, b1, p, 0⟩, ⟨2, b2, q, 0⟩], 1, false⟩ := by
      unfold drr.firS
      rw [B, ids2]
      dsimp only
      rw [if_neg (show ¬ ((0 : Int) ∈ ([1, 2] : List Int)) by decide)]
      rfl
    have G : drr.grantS ⟨most, [⟨1, b1, p, 0⟩, ⟨2, b2, q, 0⟩], 1, false⟩ = ⟨most, [⟨1, b1, p, 0 + p⟩, ⟨2, b2, q, 0⟩], 1, true⟩ := rfl
    have R : drr.runS (H2 z) ⟨most, [⟨1, b1, p, 0⟩, ⟨2, b2, q, 0⟩], 1, false⟩ = ⟨most, [⟨1, b1, p, 0 + p⟩, ⟨2, b2, q, 0⟩], 1, true⟩ := by
      unfold drr.runS drr.lowS
      rw [G, if_neg]
      show ¬ decide (0 + p < z) = true
      simp; omega
    rw [F, R]
    have T : drr.takeS z ⟨most, [⟨1, b1, p, 0 + p⟩, ⟨2, b2, q, 0⟩], 1, true⟩ = ⟨most, [⟨1, b1, p, 0 + p - z⟩, ⟨2, b2, q, 0⟩], 1, true⟩ := by
      unfold drr.takeS
      rw [if_pos ⟨rfl, by omega, by show z ≤ 0 + p; omega⟩]
      rfl
    rw [T]
    refine ⟨⟨_, _, _, _, rfl, by omega, by omega, .inr (.inl ⟨0, rfl, rfl, by simp, by simp, by omega, by omega⟩)⟩, .inl ⟨rfl, ⟨_, _, _, _, rfl, by omega, by omega, .inr (.inl ⟨0, rfl, rfl, by simp; omega, by simp, by omega, by omega⟩)⟩⟩⟩
  · have F : drr.firS (H2 z) ⟨most, [⟨1, b1, p, l1⟩, ⟨2, b2, q, l2⟩], 1, true⟩ = ⟨most, [⟨1, b1, p, l1⟩, ⟨2, b2, q, l2⟩], 1, true⟩ := by
      unfold drr.firS
      rw [ids2]
      dsimp only
      rw [if_pos (show (1 : Int) ∈ ([1, 2] : List Int) by decide), B]
    rw [F]
    by_cases hl : l1 < z
    · have R : drr.runS (H2 z) ⟨most, [⟨1, b1, p, l1⟩, ⟨2, b2, q, l2⟩], 1, true⟩ = ⟨most, [⟨1, b1, p, l1⟩, ⟨2, b2, q, l2 + q⟩], 2, true⟩ := by
        unfold drr.runS drr.lowS
        rw [if_pos]
        · rfl
        · show decide (l1 < z) = true
          simp; omega
      have T : drr.takeS z ⟨most, [⟨1, b1, p, l1⟩, ⟨2, b2, q, l2 + q⟩], 2, true⟩ = ⟨most, [⟨1, b1, p, l1⟩, ⟨2, b2, q, l2 + q - z⟩], 2, true⟩ := by
        unfold drr.takeS
        rw [if_pos ⟨rfl, by omega, by show z ≤ l2 + q; omega⟩]
        rfl
      rw [R, T]
      have e3 : (c + 1) * q = c * q + q := by rw [Int.add_mul, Int.one_mul]
      refine ⟨⟨_, _, _, _, rfl, by omega, by omega, .inr (.inr ⟨c, rfl, rfl, e1, by omega, by omega, by omega⟩)⟩, .inr ⟨rfl, ⟨_, _, _, _, rfl, by omega, by omega, .inr (.inr ⟨c, rfl, rfl, e1, by omega, by omega, by omega⟩)⟩⟩⟩
    · have R : drr.runS (H2 z) ⟨most, [⟨1, b1, p, l1⟩, ⟨2, b2, q, l2⟩], 1, true⟩ = ⟨most, [⟨1, b1, p, l1⟩, ⟨2, b2, q, l2⟩], 1, true⟩ := by
        unfold drr.runS drr.lowS
        rw [if_neg]
        · rfl
        · show ¬ decide (l1 < z) = true
          simp; omega
      have T : drr.takeS z ⟨most, [⟨1, b1, p, l1⟩, ⟨2, b2, q, l2⟩], 1, true⟩ = ⟨most, [⟨1, b1, p, l1 - z⟩, ⟨2, b2, q, l2⟩], 1, true⟩ := by
        unfold drr.takeS
        rw [if_pos ⟨rfl, by omega, by show z ≤ l1; omega⟩]
        rfl
      rw [R, T]
      refine ⟨⟨_, _, _, _, rfl, by omega, by omega, .inr (.inl ⟨c, rfl, rfl, e1, e2, by omega, by omega⟩)⟩, .inl ⟨rfl, ⟨_, _, _, _, rfl, by omega, by omega, .inr (.inl ⟨c, rfl, rfl, by omega, e2, by omega, by omega⟩)⟩⟩⟩
  · have F : drr.firS (H2 z) ⟨most, [⟨1, b1, p, l1⟩, ⟨2, b2, q, l2⟩], 2, true⟩ = ⟨most, [⟨1, b1, p, l1⟩, ⟨2, b2, q, l2⟩], 2, true⟩ := by
      unfold drr.firS
      rw [ids2]
      dsimp only
      rw [if_pos (show (2 : Int) ∈ ([1, 2] : List Int) by decide), B]
    rw [F]
    by_cases hl : l2 < z
    · have R : drr.runS (H2 z) ⟨most, [⟨1, b1, p, l1⟩, ⟨2, b2, q, l2⟩], 2, true⟩ = ⟨most, [⟨1, b1, p, l1 + p⟩, ⟨2, b2, q, l2⟩], 1, true⟩ := by
        have P : drr.passS (H2 z) ⟨most, [⟨1, b1, p, l1⟩, ⟨2, b2, q, l2⟩], 2, true⟩ = ⟨most, [⟨1, b1, p, l1⟩, ⟨2, b2, q, l2⟩], 1, false⟩ := by
          unfold drr.passS
          rw [ids2]
          dsimp only
          rw [next2]
        unfold drr.runS drr.lowS
        rw [if_pos]
        · show drr.grantS (drr.passS (H2 z) ⟨most, [⟨1, b1, p, l1⟩, ⟨2, b2, q, l2⟩], 2, true⟩) = _
          rw [P]
          rfl
        · show decide (l2 < z) = true
          simp; omega
      have T : drr.takeS z ⟨most, [⟨1, b1, p, l1 + p⟩, ⟨2, b2, q, l2⟩], 1, true⟩ = ⟨most, [⟨1, b1, p, l1 + p - z⟩, ⟨2, b2, q, l2⟩], 1, true⟩ := by
        unfold drr.takeS
        rw [if_pos ⟨rfl, by omega, by show z ≤ l1 + p; omega⟩]
        rfl
      rw [R, T]
      have e3 : (c + 1 + 1) * p = (c + 1) * p + p := by rw [Int.add_mul (c + 1), Int.one_mul]
      refine ⟨⟨_, _, _, _, rfl, by omega, by omega, .inr (.inl ⟨c + 1, rfl, rfl, by omega, e2, by omega, by omega⟩)⟩, .inl ⟨rfl, ⟨_, _, _, _, rfl, by omega, by omega, .inr (.inl ⟨c + 1, rfl, rfl, by omega, e2, by omega, by omega⟩)⟩⟩⟩
    · have R : drr.runS (H2 z) ⟨most, [⟨1, b1, p, l1⟩, ⟨2, b2, q, l2⟩], 2, true⟩ = ⟨most, [⟨1, b1, p, l1⟩, ⟨2, b2, q, l2⟩], 2, true⟩ := by
        unfold drr.runS drr.lowS
        rw [if_neg]
        · rfl
        · show ¬ decide (l2 < z) = true
          simp; omega
      have T : drr.takeS z ⟨most, [⟨1, b1, p, l1⟩, ⟨2, b2, q, l2⟩], 2, true⟩ = ⟨most, [⟨1, b1, p, l1⟩, ⟨2, b2, q, l2 - z⟩], 2, true⟩ := by
        unfold drr.takeS
        rw [if_pos ⟨rfl, by omega, by show z ≤ l2; omega⟩]
        rfl
      rw [R, T]
      refine ⟨⟨_, _, _, _, rfl, by omega, by omega, .inr (.inr ⟨c, rfl, rfl, e1, e2, by omega, by omega⟩)⟩, .inr ⟨rfl, ⟨_, _, _, _, rfl, by omega, by omega, .inr (.inr ⟨c, rfl, rfl, e1, by omega, by omega, by omega⟩)⟩⟩⟩

/-- n items of size z -/
def Al (z : Int) (l : List que.It) (n : Nat) : Prop := l.length = n ∧ ∀ x ∈ l, x.size = z
theorem Al.drop {z : Int} {l : List que.It} {n : Nat} (h : Al z l (n + 1)) : Al z (l.drop 1) n := ⟨by rw [List.length_drop, h.1]; rfl, fun x hx => h.2 x (List.mem_of_mem_drop hx)⟩
theorem Al.push {z : Int} {l : List que.It} {n : Nat} (h : Al z l n) (x : que.It) (hx : x.size = z) : Al z (l ++ [x]) (n + 1) := ⟨by rw [List.length_append, h.1]; rfl, fun y hy => by
  rcases List.mem_append.1 hy with hy | hy
  · exact h.2 y hy
  · simp at hy; rw [hy]; exact hx⟩
/-- an outlet of the two flows, with a and b items, that have sent u1 and u2 -/
structure Sh (z p q : Int) (e : Eo) (a b : Nat) (u1 u2 : Int) : Prop where
  mo : e.most = 40
  L : ∃ fb1 qb1 pv1 L1 br1 fb2 qb2 pv2 L2 br2, e.L = [⟨1, fb1, true, qb1, pv1, ⟨5, 1000, L1, br1⟩⟩, ⟨2, fb2, true, qb2, pv2, ⟨5, 1000, L2, br2⟩⟩] ∧ Al z L1 a ∧ Al z L2 b
  d : Dr p q e.s u1 u2
theorem Sh.ids {z p q u1 u2 : Int} {e : Eo} {a b : Nat} (h : Sh z p q e a b u1 u2) : idS e.L = [1, 2] := by
  obtain ⟨fb1, qb1, pv1, L1, br1, fb2, qb2, pv2, L2, br2, hL, _⟩ := h.L
  rw [hL]
  show ([1, 2] : List Int).mergeSort (fun x y => decide (x ≤ y)) = [1, 2]
  exact sorted_is (List.Perm.refl _) (by decide)
theorem Sh.next {z p q u1 u2 : Int} {e : Eo} {a b : Nat} (h : Sh z p q e (a + 1) (b + 1) u1 u2) : nextS e = ((drr.chooseS (H2 z) e.s).turn, true, drr.chooseS (H2 z) e.s) := by
  have hi := h.ids
  obtain ⟨fb1, qb1, pv1, L1, br1, fb2, qb2, pv2, L2, br2, hL, h1, h2⟩ := h.L
  have hn : nx e.L (idS e.L) = ⟨H2 z, none⟩ := by
    rw [hi, hL]
    cases L1 with
    | nil => have := h1.1; simp at this
    | cons x l =>
      cases L2 with
      | nil => have := h2.1; simp at this
      | cons y m =>
        have e1 := h1.2 x (by simp)
        have e2 := h2.2 y (by simp)
        show (⟨[(1, x.size), (2, y.size)], none⟩ : Nx) = _
        rw [e1, e2]
  unfold nextS
  rw [hn]
  rfl
def cnt (i : Int) (l : List Snt) : Nat := l.countP (fun x => x.id == i)
theorem cnt_snoc (i : Int) (l : List Snt) (x : Snt) : cnt i (l ++ [x]) = cnt i l + (if x.id = i then 1 else 0) := by
  unfold cnt
  rw [List.countP_append, List.countP_cons, List.countP_nil]
  by_cases h : x.id = i <;> simp [h]
/-- what a Run has sent so far -/
structure St (z p q : Int) (e : Eo) (l : List Snt) (e1 : Eo) (u1 u2 : Int) : Prop where
  sh : ∃ a b, a + cnt 1 l = 5 ∧ b + cnt 2 l = 5 ∧ Sh z p q e1 a b (u1 + z * cnt 1 l) (u2 + z * cnt 2 l)
  len : cnt 1 l + cnt 2 l = l.length
  c : e1.credit = e.credit - z * l.length
  c0 : 0 ≤ e1.credit
  id : ∀ x ∈ l, x.id = 1 ∨ x.id = 2
theorem St.few {z p q u1 u2 : Int} {e e1 : Eo} {l : List Snt} (h : St z p q e l e1 u1 u2) (z1 : 1 ≤ z) (hc : e.credit < 4 * z) : l.length ≤ 3 := by
  have h1 := h.c
  have h2 := h.c0
  by_cases hl : l.length ≤ 3
  · exact hl
  · exfalso
    have : z * 4 ≤ z * (l.length : Int) := Int.mul_le_mul_of_nonneg_left (by omega) (by omega)
    omega
theorem Sh.step {z p q u1 u2 : Int} {e : Eo} {a b : Nat} (h : Sh z p q e (a + 1) (b + 1) u1 u2) (hp : 40 ≤ p) (hq : 40 ≤ q) (z1 : 1 ≤ z) (z2 : z ≤ 40) {f : Ef} {x : que.It} (pv : Value) (hf : f ∈ e.L) (hid : f.id = (nextS e).1) (hx : f.q.L[0]? = some x) :
    x.size = z ∧ (goneE e f x pv).credit = e.credit - z ∧ ((f.id = 1 ∧ Sh z p q (goneE e f x pv) a (b + 1) (u1 + z) u2) ∨ (f.id = 2 ∧ Sh z p q (goneE e f x pv) (a + 1) b u1 (u2 + z))) := by
  have hn := h.next
  have hmo := h.mo
  obtain ⟨d1, d2⟩ := h.d.choose hp hq z1 z2
  obtain ⟨fb1, qb1, pv1, L1, br1, fb2, qb2, pv2, L2, br2, hL, h1, h2⟩ := h.L
  rw [hn] at hid
  have hg : goneE e f x pv = countE ⟨e.frames, e.bytes, e.age, e.most, e.guard, e.credit, e.row, setQ e.L f.id pv ⟨f.q.frames, f.q.most, f.q.L.drop 1, f.q.broken⟩, drr.chooseS (H2 z) e.s⟩ x.size f.video := by
    unfold goneE
    rw [hn]
  rw [hL] at hf
  simp only [List.mem_cons, List.mem_nil_iff, or_false] at hf
  rcases d2 with ⟨t1, t2⟩ | ⟨t1, t2⟩
  · rw [t1] at hid
    rcases hf with rfl | rfl
    · have hxm := List.mem_of_getElem? hx
      have hxz := h1.2 x hxm
      refine ⟨hxz, ?_, .inl ⟨rfl, ?_⟩⟩
      · rw [hg, hxz]; rfl
      · rw [hg, hxz, hL]
        exact ⟨hmo, ⟨fb1, qb1, pv, L1.drop 1, br1, fb2, qb2, pv2, L2, br2, rfl, h1.drop, h2⟩, t2⟩
    · exact absurd hid (show ¬ (2 : Int) = 1 by decide)
  · rw [t1] at hid
    rcases hf with rfl | rfl
    · exact absurd hid (show ¬ (1 : Int) = 2 by decide)
    · have hxm := List.mem_of_getElem? hx
      have hxz := h2.2 x hxm
      refine ⟨hxz, ?_, .inr ⟨rfl, ?_⟩⟩
      · rw [hg, hxz]; rfl
      · rw [hg, hxz, hL]
        exact ⟨hmo, ⟨fb1, qb1, pv1, L1, br1, fb2, qb2, pv, L2.drop 1, br2, rfl, h1, h2.drop⟩, t2⟩
theorem Sh.steps {z p q u1 u2 : Int} {e e1 : Eo} {l : List Snt} (hs : Steps e l e1) (h : Sh z p q e 5 5 u1 u2) (hp : 40 ≤ p) (hq : 40 ≤ q) (z1 : 1 ≤ z) (z2 : z ≤ 40) (c0 : 0 ≤ e.credit) (hc : e.credit < 4 * z) : St z p q e l e1 u1 u2 := by
  induction hs with
  | nil => exact ⟨⟨5, 5, rfl, rfl, by simpa [cnt] using h⟩, rfl, by simp, c0, fun x hx => by cases hx⟩
  | @snoc l e1 f x pv h1 h2 h3 h4 h5 h6 ih =>
    have hfew := ih.few z1 hc
    obtain ⟨a, b, ha, hb, hsh⟩ := ih.sh
    have hlen := ih.len
    have hcr := ih.c
    have hxs : x.size = z := by
      obtain ⟨fb1, qb1, pv1, L1, br1, fb2, qb2, pv2, L2, br2, hL, k1, k2⟩ := hsh.L
      rw [hL] at h3
      simp only [List.mem_cons, List.mem_nil_iff, or_false] at h3
      rcases h3 with rfl | rfl
      · exact k1.2 x (List.mem_of_getElem? h5)
      · exact k2.2 x (List.mem_of_getElem? h5)
    have hl3 : l.length ≤ 2 := by
      by_cases hl : l.length ≤ 2
      · exact hl
      · exfalso
        have h33 : l.length = 3 := by omega
        rw [h33] at hcr
        push_cast at hcr
        omega
    obtain ⟨a', rfl⟩ : ∃ a', a = a' + 1 := ⟨a - 1, by omega⟩
    obtain ⟨b', rfl⟩ : ∃ b', b = b' + 1 := ⟨b - 1, by omega⟩
    obtain ⟨k1, k2, k3⟩ := hsh.step hp hq z1 z2 pv h3 h4 h5
    have hll : ((l ++ [(⟨f.id, x⟩ : Snt)]).length : Int) = (l.length : Int) + 1 := by simp
    have hz1 : z * ((l.length : Int) + 1) = z * l.length + z := by rw [Int.mul_add, Int.mul_one]
    rcases k3 with ⟨k3, k4⟩ | ⟨k3, k4⟩
    · have c1 : cnt 1 (l ++ [(⟨f.id, x⟩ : Snt)]) = cnt 1 l + 1 := by rw [cnt_snoc, if_pos k3]
      have c2 : cnt 2 (l ++ [(⟨f.id, x⟩ : Snt)]) = cnt 2 l := by rw [cnt_snoc, if_neg (by show ¬ f.id = 2; rw [k3]; decide)]; rfl
      refine ⟨⟨a', b' + 1, by rw [c1]; omega, by rw [c2]; exact hb, ?_⟩, by rw [c1, c2, List.length_append, List.length_singleton]; omega, by rw [k2, hll, hz1]; omega, by rw [k2]; omega, fun y hy => ?_⟩
      · rw [c1, c2]
        have : u1 + z * ((cnt 1 l + 1 : Nat) : Int) = u1 + z * cnt 1 l + z := by push_cast; rw [Int.mul_add, Int.mul_one]; omega
        rw [this]; exact k4
      · rcases List.mem_append.1 hy with hy | hy
        · exact ih.id y hy
        · simp at hy; rw [hy]; exact .inl k3
    · have c1 : cnt 1 (l ++ [(⟨f.id, x⟩ : Snt)]) = cnt 1 l := by rw [cnt_snoc, if_neg (by show ¬ f.id = 1; rw [k3]; decide)]; rfl
      have c2 : cnt 2 (l ++ [(⟨f.id, x⟩ : Snt)]) = cnt 2 l + 1 := by rw [cnt_snoc, if_pos k3]
      refine ⟨⟨a' + 1, b', by rw [c1]; exact ha, by rw [c2]; omega, ?_⟩, by rw [c1, c2, List.length_append, List.length_singleton]; omega, by rw [k2, hll, hz1]; omega, by rw [k2]; omega, fun y hy => ?_⟩
      · rw [c1, c2]
        have : u2 + z * ((cnt 2 l + 1 : Nat) : Int) = u2 + z * cnt 2 l + z := by push_cast; rw [Int.mul_add, Int.mul_one]; omega
        rw [this]; exact k4
      · rcases List.mem_append.1 hy with hy | hy
        · exact ih.id y hy
        · simp at hy; rw [hy]; exact .inr k3
/-- a Run: what it sends, what is left; no credit for one more -/
theorem Sh.ran {z p q u1 u2 : Int} {e e' : Eo} {l : List Snt} (hr : Ran e l e') (h : Sh z p q e 5 5 u1 u2) (hp : 40 ≤ p) (hq : 40 ≤ q) (z1 : 1 ≤ z) (z2 : z ≤ 40) (c0 : 0 ≤ e.credit) (hc : e.credit < 4 * z) : St z p q e l e' u1 u2 ∧ e'.credit < z ∧ l.length ≤ 3 := by
  obtain ⟨e1, hs, rfl, hend⟩ := hr
  have hst := Sh.steps hs h hp hq z1 z2 c0 hc
  have hfew := hst.few z1 hc
  obtain ⟨a, b, ha, hb, hsh⟩ := hst.sh
  have hlen := hst.len
  obtain ⟨a', rfl⟩ : ∃ a', a = a' + 1 := ⟨a - 1, by omega⟩
  obtain ⟨b', rfl⟩ : ∃ b', b = b' + 1 := ⟨b - 1, by omega⟩
  have hn := hsh.next
  have hlow : e1.credit < z := by
    rcases hend with hend | ⟨f, x, h2, h3, h4, h5, h6⟩
    · rw [hn] at hend; cases hend
    · obtain ⟨k1, _⟩ := hsh.step hp hq z1 z2 (.slice none 0 0) h3 h4 h5
      omega
  have hA : afterN e1 = ⟨e1.frames, e1.bytes, e1.age, e1.most, e1.guard, e1.credit, e1.row, e1.L, drr.chooseS (H2 z) e1.s⟩ := by unfold afterN; rw [hn]
  rw [hA]
  exact ⟨⟨⟨_, _, ha, hb, ⟨hsh.mo, hsh.L, (hsh.d.choose hp hq z1 z2).1⟩⟩, hlen, hst.c, hst.c0, hst.id⟩, hlow, hfew⟩
theorem putK_zero {q : que.Q} {x : que.It} (h : que.full q x q.L = false) : que.putK q x = 0 := by
  unfold que.putK
  cases hL : q.L with
  | nil => rfl
  | cons y l =>
    rw [hL] at h
    unfold que.sh
    rw [List.length_cons]
    unfold que.shed
    simp [h]
/-- one item more -/
theorem sh_put {L : List que.It} {z : Int} {a : Nat} {br : Bool} (h : Al z L a) (ha : a < 5) (z1 : 1 ≤ z) (z2 : z ≤ 40) (x : que.It) (hx : x.size = z) (hk : x.key = true) : que.putOk ⟨5, 1000, L, br⟩ x = true ∧ que.putQ ⟨5, 1000, L, br⟩ x = ⟨5, 1000, L ++ [x], false⟩ := by
  have hs : que.sumL L = z * a := by
    obtain ⟨rfl, h2⟩ := h
    clear ha
    induction L with
    | nil => simp [que.sumL]
    | cons y l ih =>
      have := ih (fun w hw => h2 w (by simp [hw]))
      have hy := h2 y (by simp)
      show y.size + que.sumL l = _
      rw [this, hy, List.length_cons]
      push_cast
      rw [Int.mul_add, Int.mul_one]
      omega
  have ha4 : z * (a : Int) ≤ z * 4 := Int.mul_le_mul_of_nonneg_left (by omega) (by omega)
  have hf : que.full ⟨5, 1000, L, br⟩ x L = false := by
    unfold que.full
    rw [hs, hx, h.1]
    simp
    omega
  have h0 := putK_zero (q := ⟨5, 1000, L, br⟩) hf
  have hb : que.bad ⟨5, 1000, L, br⟩ x = false := by
    unfold que.bad
    rw [hx, hk]
    simp
    omega
  unfold que.putOk que.putQ
  rw [hb, hk, h0]
  simp
theorem Sh.put1 {z p q u1 u2 : Int} {e : Eo} {a b : Nat} (h : Sh z p q e a b u1 u2) {f : Ef} (hf : f ∈ e.L) (z1 : 1 ≤ z) (z2 : z ≤ 40) (x : que.It) (hx : x.size = z) (hk : x.key = true) (pv : Value) :
    (f.id = 1 → a < 5 → que.putOk f.q x = true ∧ Sh z p q ⟨e.frames, e.bytes, e.age, e.most, e.guard, e.credit, e.row, setQ e.L f.id pv (que.putQ f.q x), e.s⟩ (a + 1) b u1 u2) ∧
    (f.id = 2 → b < 5 → que.putOk f.q x = true ∧ Sh z p q ⟨e.frames, e.bytes, e.age, e.most, e.guard, e.credit, e.row, setQ e.L f.id pv (que.putQ f.q x), e.s⟩ a (b + 1) u1 u2) := by
  obtain ⟨fb1, qb1, pv1, L1, br1, fb2, qb2, pv2, L2, br2, hL, h1, h2⟩ := h.L
  have hmo := h.mo
  have hd := h.d
  rw [hL] at hf
  simp only [List.mem_cons, List.mem_nil_iff, or_false] at hf
  rcases hf with rfl | rfl
  · refine ⟨fun _ ha => ?_, fun e => absurd e (show ¬ (1 : Int) = 2 by decide)⟩
    obtain ⟨k1, k2⟩ := sh_put (br := br1) h1 ha z1 z2 x hx hk
    refine ⟨k1, ?_⟩
    rw [k2, hL]
    exact ⟨hmo, ⟨fb1, qb1, pv, L1 ++ [x], false, fb2, qb2, pv2, L2, br2, rfl, h1.push x hx, h2⟩, hd⟩
  · refine ⟨fun e => absurd e (show ¬ (2 : Int) = 1 by decide), fun _ hb => ?_⟩
    obtain ⟨k1, k2⟩ := sh_put (br := br2) h2 hb z1 z2 x hx hk
    refine ⟨k1, ?_⟩
    rw [k2, hL]
    exact ⟨hmo, ⟨fb1, qb1, pv1, L1, br1, fb2, qb2, pv, L2 ++ [x], false, rfl, h1, h2.push x hx⟩, hd⟩
end Go.Proofs.YtcppibjllaablaaGreat.egr

/-
  egress.Out: Run.
-/
namespace Go.Proofs.YtcppibjllaablaaGreat.egr
open Go.RowKit mem Go.Maps
open Go.Proofs.YtcppibjllaablaaGreat.itr
set_option linter.unusedVariables false

/-! ### a row of yet another type grows -/
theorem own_own {α β : Type} {E : Enc α} {F : Enc β} {w : World} {v u : Value} {l : List α} {m : List β} {T U : TypeId} (h : Owns E T w v l) (k : Owns F U w u m) (hT : T ≠ U) : ∀ g, u.ownBlock = some g → some g ≠ v.ownBlock := by
  rcases k.2 with ⟨rfl, _⟩ | ⟨g, cap, cur, rfl, _, hb, _⟩
  · intro g hg; simp [Value.ownBlock] at hg
  · intro g' hg e
    have : g = g' := by simpa [Value.ownBlock] using hg
    subst this
    exact own_ne h (show Blk w g cur U from hb) hT e.symm
theorem Es.row {w w' : World} {A : Ad} {k : Nat} {e : Eo} (h : Es w A k e) {α : Type} {E : Enc α} {T : TypeId} {v : Value} {l : List α} (ho : Owns E T w v l) (a1 : T ≠ OB) (a2 : T ≠ 170) (a3 : T ≠ 67) (a4 : T ≠ 174) (a5 : T ≠ 178) (a6 : T ≠ GB) (t : Turns (fun i => some i = v.ownBlock) w w') : Es w' A k e := by
  obtain ⟨c, D, hc, hmp, hr⟩ := h.map
  obtain ⟨c2, D2, hc2, hss⟩ := h.sch
  have off : ∀ {r : Nat} {cs : Array Value} {U : TypeId}, Blk w r cs U → T ≠ U → ¬ some r = v.ownBlock := fun hb hT e2 => own_ne ho hb hT e2.symm
  refine ⟨t.blk h.blk (off h.blk a1), ⟨c, D, hc, ownsMap_turns hmp t (fun hk => ownsMap_ne_row hmp ho _ hk.symm rfl), hr⟩, fun f hf => t.blk (h.fb f hf) (off (h.fb f hf) a6), fun f hf => (h.qs f hf).turns t (off (h.qs f hf).blk a2) (own_own ho (h.qs f hf).own a3), ⟨c2, D2, hc2, hss.turns t (off hss.blk a4) (fun hk => ownsMap_ne_row hss.map ho _ hk.symm rfl) (fun f hf => off (hss.fb f hf) a5)⟩, h.ap, h.mm, h.rg, h.cf, h.fq, h.sm, h.vs⟩
theorem Sf.grow {b : Nat} {A : Ad} {w w1 w2 : World} (h : Sf b A w w1) (hb : b ≤ w.heap.size) (t : Turns (fun i => w.heap.size ≤ i) w1 w2) : Sf b A w w2 :=
  ⟨h.t.trans (t.mono (fun i _ hi => .inl (Nat.le_trans hb hi))), fun r cs T hk a1 a2 a3 a4 a5 => by
    have hl := hk.lt
    have hz := h.t.size
    rw [t.block r (by omega) (by omega), h.c r cs T hk a1 a2 a3 a4 a5]⟩
/-- in the loop -/
structure Rx (b : Nat) (w wr : World) (A : Ad) (k : Nat) (e : Eo) (R : Int) (u v : Value) (l : List Snt) (e1 : Eo) : Prop where
  st : Steps e l e1
  es : Es wr A k e1
  lo : Lo b A e1
  sf : Sf b A w wr
  ids : idS e1.L = idS e.L
  ui : Owns IntE 3 wr u (idS e.L)
  ow : Owns SE SeT wr v l
  vb : ∀ g, v.ownBlock = some g → w.heap.size ≤ g
  tot : l.length + Tot e1.L = Tot e.L
  r0 : 0 ≤ e1.row
  r1 : e1.row + Tot e1.L ≤ R
theorem Rx.go {b : Nat} {w wr w6 w9 : World} {A : Ad} {k : Nat} {e : Eo} {R : Int} {u v v9 : Value} {l : List Snt} {e1 : Eo} (h : Rx b w wr A k e R u v l e1) (hb : b ≤ w.heap.size) (hn : (nextS e1).2.1 = true) {f : Ef} (hf : f ∈ e1.L) (hid : f.id = (nextS e1).1) {x : que.It} (hx : f.q.L[0]? = some x) (hcr : x.size ≤ e1.credit) {pv : Value}
    (hes : Es w6 A k (goneE e1 f x pv)) (lo : Lo b A (goneE e1 f x pv)) (sf : Sf b A wr w6) {o : Obj}
    (ho : Owns SE SeT w9 v9 (l ++ [⟨f.id, x⟩])) (hg : (w6.alloc o).grownBy w9 v.ownBlock) (ha : v9.ownBlock = v.ownBlock ∨ v9.ownBlock = some (w6.alloc o).heap.size) : Rx b w w9 A k e R u v9 (l ++ [⟨f.id, x⟩]) (goneE e1 f x pv) := by
  have hov := sf.row h.ow (by decide) (by decide) (by decide) (by decide) (by decide)
  have hoi := sf.row h.ui (by decide) (by decide) (by decide) (by decide) (by decide)
  have ht := Gr.turned hg
  have hsw := h.sf.trans sf
  have hlen : (f.q.L.drop 1).length = f.q.L.length - 1 := List.length_drop
  have h0 : 0 < f.q.L.length := (List.getElem?_eq_some_iff.1 hx).1
  have htot : Tot (goneE e1 f x pv).L + 1 = Tot e1.L := by
    have := tot_set h.es.ap hf pv ⟨f.q.frames, f.q.most, f.q.L.drop 1, f.q.broken⟩
    rw [gone_L]
    simp only at this
    omega
  have hrow := gone_row e1 f x pv h.r0
  have h1 := h.r1
  refine ⟨Steps.snoc pv h.st hn hf hid hx hcr, hes.row hov (by decide) (by decide) (by decide) (by decide) (by decide) (by decide) ht, lo, hsw.grow hb (ht.mono (fun i _ hi => h.vb i hi.symm)), by rw [gone_L, setQ_idS]; exact h.ids, hoi.turns ht (fun g hg e2 => own_own hov hoi (by decide) g hg e2), ho, fun g hg2 => ?_, ?_, hrow.1, by omega⟩
  · rcases ha with e2 | e2
    · exact h.vb g (by rw [← e2]; exact hg2)
    · rw [e2] at hg2
      injection hg2 with hg2
      have := hsw.t.size
      simp at hg2; omega
  · have := h.tot
    rw [List.length_append, List.length_singleton]; omega
set_option maxRecDepth 100000 in
set_option maxHeartbeats 4000000 in
theorem run (b : Nat) (A : Ad) (k : Nat) (e : Eo) (w : World) (h : Es w A k e) (lo : Lo b A e) (hb : b ≤ w.heap.size) (hk : k ≤ 1048576) (hL : e.L.length ≤ 1048576) (hT : Tot e.L ≤ 1048575) (r0 : 0 ≤ e.row) (r1 : e.row ≤ 4611686018427387904) :
    Calls Tryz.prog 11 #[.pointer (some ⟨A.o, 0, none⟩)] w fun x w' => ∃ v l e', x = .returned v ∧ Ran e l e' ∧ Es w' A k e' ∧ Lo b A e' ∧ Sf b A w w' ∧ Owns SE SeT w' v l ∧ (∀ g, v.ownBlock = some g → w.heap.size ≤ g) ∧ e'.row ≤ e.row + Tot e.L ∧ 0 ≤ e'.row := by
  have HI := Lib.hid (ids A k e w h hk)
  have HH := Lib.hid (And.intro h lo)
  have HRR : Hid (0 ≤ e.row ∧ e.row ≤ 4611686018427387904 ∧ (idS e.L).length ≤ 1048576 ∧ b ≤ w.heap.size) := Lib.hid ⟨r0, r1, by rw [(idS_perm e.L).length_eq, List.length_map]; exact hL, hb⟩
  clear h lo r0 r1 hk hL hb
  go_enter Tryz.func11, Tryz.ntmps11
  go_wp2_with fail
  refine HI.out.mono ?_
  rintro x w1 ⟨u, rfl, hu⟩
  have HX0 : Hid (Rx b w w1 A k e (e.row + Tot e.L) u (.slice none 0 0) [] e) := Lib.hid ⟨Steps.nil e, HH.out.1.later hu.n, HH.out.2, Sf.new hu.n, rfl, hu.own, Owns.nil _ _, (fun g hg => by simp [Value.ownBlock] at hg), by simp, HRR.out.1, Int.le_refl _⟩
  clear hu HI
  go_wp2_with fail
  go_loopw [3] (fun v wr => ∃ l e1, Rx b w wr A k e (e.row + Tot e.L) u v l e1) (fun v _ => Tot e.L - que.slen v)
  case atStart => exact ⟨[], e, HX0.out⟩
  case round =>
    obtain ⟨l, e1, hrx⟩ := hrel
    have HX := Lib.hid hrx
    obtain ⟨ao, c, hv, _, _, _⟩ := hrx.ow.form
    subst hv
    have HN := Lib.hid (next A k e1 u wr hrx.es (by rw [hrx.ids]; exact hrx.ui) (by rw [hrx.ids]; exact HRR.out.2.2.1))
    clear hrx HX0
    go_wp2_with fail
    refine HN.out.mono ?_
    rintro x w2 ⟨rfl, hes2, ht2⟩
    have HS2 := Lib.hid (Sf.drr HX.out.es HX.out.lo ht2)
    have HE2 : Hid (Es w2 A k (afterN e1)) := Lib.hid hes2
    have HNF := Lib.hid (fun hn => HX.out.es.next_flow hn)
    clear hes2 ht2 HN
    cases hn : (nextS e1).2.1 with
    | false =>
      have HR : Hid (Ran e l (afterN e1)) := Lib.hid ⟨e1, HX.out.st, rfl, .inl hn⟩
      clear hn
      go_wp2
      go_ret
      have hx := HX.out
      exact ⟨_, l, _, rfl, HR.out, HE2.out, hx.lo.sim (next_sim e1), hx.sf.trans HS2.out, HS2.out.row hx.ow (by decide) (by decide) (by decide) (by decide) (by decide), hx.vb, (by have := hx.r1; show e1.row ≤ _; omega), hx.r0⟩
    | true =>
      obtain ⟨f, hf, hid, x, hx⟩ := HNF.out hn
      rw [← hid]
      have hx2 := HX.out
      have HF := Lib.hid (And.intro hf (And.intro hid (And.intro hx hn)))
      have hes2 := HE2.out
      have c5 := hes2.blk.cell 5
      have hr := hes2.look1 hf
      obtain ⟨⟨f0, f1⟩, _⟩ := drr.two (hes2.fb f hf)
      have HFI := Lib.hid (que.first_cons f.qb f.pv f.q x w2 (hes2.qs f hf) hx)
      have HLT : Hid (f.qb < w2.heap.size ∧ ∀ g, f.pv.ownBlock = some g → g < w2.heap.size) := Lib.hid ⟨(hes2.qs f hf).lt, (hes2.qs f hf).vlt⟩
      have HX3 : Hid (0 ≤ x.size ∧ x.size ≤ e1.most) := Lib.hid ⟨(hes2.qs f hf).ok.pos x (List.mem_of_getElem? hx), (hes2.fq f hf).sz x (List.mem_of_getElem? hx)⟩
      clear hes2 hf hid hx hx2 hn HNF
      obtain ⟨xn, xs, xt, xk⟩ := x
      dsimp only [que.It.v] at HFI HX3
      go_wp2_with fail
      refine HFI.out.mono ?_
      rintro y w3' ⟨rfl, n3⟩
      have n4 : New w2 (w3'.alloc (.cells #[.int .i64 xn, .int .i64 xs, .int .i64 xt, .bool xk] que.PT)) := n3.trans ((Turns.refl _ w3').alloc _)
      have HB3 : Hid (Blk (w3'.alloc (.cells #[.int .i64 xn, .int .i64 xs, .int .i64 xt, .bool xk] que.PT)) w3'.heap.size #[.int .i64 xn, .int .i64 xs, .int .i64 xt, .bool xk] que.PT ∧ w2.heap.size ≤ w3'.heap.size) := Lib.hid ⟨Blk.new _ _ _, n3.size⟩
      have HE3 := Lib.hid (HE2.out.later n4)
      have HN3 := Lib.hid n4
      clear n3 n4 hr c5 f0 f1 HFI
      go_upto_region 8 with fail
      refine (show Code.wp _ _ _ _ (w3'.alloc (.cells #[.int .i64 xn, .int .i64 xs, .int .i64 xt, .bool xk] que.PT)) from ?_)
      generalize w3'.alloc (.cells #[.int .i64 xn, .int .i64 xs, .int .i64 xt, .bool xk] que.PT) = w3 at *
      generalize w3'.heap.size = px at *
      obtain ⟨⟨x0, x1, x2, x3⟩, _⟩ := que.four HB3.out.1
      have c7 := HE3.out.blk.cell 7
      dsimp only [afterN] at c7
      by_cases hcr : e1.credit < xs
      · have d1 : decide (e1.credit < xs) = true := decide_eq_true hcr
        have HR : Hid (Ran e l (afterN e1)) := Lib.hid ⟨e1, HX.out.st, rfl, .inr ⟨f, _, HF.out.2.2.2, HF.out.1, HF.out.2.1, HF.out.2.2.1, hcr⟩⟩
        clear hcr
        go_quiet (fail)
        go_wp2
        go_ret
        have hx := HX.out
        have n5 : New w2 (w3.drewN nq) := HN3.out.drewN _
        exact ⟨_, l, _, rfl, HR.out, HE2.out.later n5, hx.lo.sim (next_sim e1), (hx.sf.trans HS2.out).trans (Sf.new n5), (HS2.out.trans (Sf.new n5)).row hx.ow (by decide) (by decide) (by decide) (by decide) (by decide), hx.vb, (by have := hx.r1; show e1.row ≤ _; omega), hx.r0⟩
      · have d1 : decide (e1.credit < xs) = false := decide_eq_false hcr
        have HCR : Hid (xs ≤ e1.credit) := Lib.hid (by omega)
        clear hcr
        go_quiet (fail)
        clear x0 x1 x2 x3 c7 d1
        have HE4 := Lib.hid (HE3.out.later ((Turns.refl _ w3).drewN nq))
        have HB4 : Hid (Blk (w3.drewN nq) px #[.int .i64 xn, .int .i64 xs, .int .i64 xt, .bool xk] que.PT ∧ w2.heap.size ≤ px) := Lib.hid HB3.out
        have HN4 : Hid (New w2 (w3.drewN nq)) := Lib.hid (HN3.out.drewN _)
        clear HE3 HB3 HN3
        generalize w3.drewN nq = w4 at *
        have c5 := HE4.out.blk.cell 5
        obtain ⟨⟨f0, f1⟩, _⟩ := drr.two (HE4.out.fb f HF.out.1)
        have HPOP := Lib.hid (que.pop_cons f.qb f.pv f.q ⟨xn, xs, xt, xk⟩ w4 (HE4.out.qs f HF.out.1) HF.out.2.2.1)
        go_wp2_with fail
        refine HPOP.out.mono ?_
        rintro y w5 ⟨rfl, hl⟩
        have hoff : ∀ {r : Nat}, r = px → ¬ que.Foot f.qb f.pv r := fun {r} hr hk => by
          have h1 := HLT.out.1
          have h3 := HB4.out.2
          rcases hk with hk | hk
          · omega
          · have := HLT.out.2 r hk; omega
        have HB5 : Hid (Blk w5 px #[.int .i64 xn, .int .i64 xs, .int .i64 xt, .bool xk] que.PT) := Lib.hid (hl.turns.blk HB4.out.1 (hoff rfl))
        have hx1 := HX.out
        have hlo1 : Lo b A (afterN e1) := hx1.lo.sim (next_sim e1)
        have hz4 : b ≤ w4.heap.size := Nat.le_trans HRR.out.2.2.2 (Nat.le_trans hx1.sf.t.size (Nat.le_trans HS2.out.t.size HN4.out.size))
        obtain ⟨pv', hloc, hes5⟩ := HE4.out.queue HF.out.1 (q' := ⟨f.q.frames, f.q.most, f.q.L.drop 1, f.q.broken⟩) hl rfl rfl (fun z hz => (HE4.out.fq f HF.out.1).sz z (List.mem_of_mem_drop hz))
        have hlo5 := hlo1.setQ HF.out.1 hz4 (q' := ⟨f.q.frames, f.q.most, f.q.L.drop 1, f.q.broken⟩) hloc (c := e1.credit) (r := e1.row)
        have HS5 := Lib.hid ((HS2.out.trans (Sf.new HN4.out)).trans (Sf.que HE4.out hlo1 HF.out.1 hl.turns))
        have hfm : (⟨f.id, f.fb, f.video, f.qb, pv', ⟨f.q.frames, f.q.most, f.q.L.drop 1, f.q.broken⟩⟩ : Ef) ∈ setQ e1.L f.id pv' ⟨f.q.frames, f.q.most, f.q.L.drop 1, f.q.broken⟩ := List.mem_map.2 ⟨f, HF.out.1, if_pos rfl⟩
        have hfb5 := hes5.fb _ hfm
        dsimp only [fcells] at hfb5
        have HES5 := Lib.hid hes5
        have HLO5 := Lib.hid hlo5
        have hr1 := hx1.r1
        have hr0 := hx1.r0
        have hrr := HRR.out.2.1
        have HCT := Lib.hid (fun W (n : New w5 W) => count A k _ xs f.video W (hes5.later n) HX3.out.1 HCR.out hr0 (by show e1.row < _; omega))
        have HGE : Hid (goneE e1 f ⟨xn, xs, xt, xk⟩ pv' = countE ⟨(afterN e1).frames, (afterN e1).bytes, (afterN e1).age, (afterN e1).most, (afterN e1).guard, (afterN e1).credit, (afterN e1).row, setQ (afterN e1).L f.id pv' ⟨f.q.frames, f.q.most, f.q.L.drop 1, f.q.broken⟩, (afterN e1).s⟩ xs f.video) := Lib.hid rfl
        clear hl HPOP hoff hx1 hlo1 hz4 hloc hes5 hlo5 hfm c5 f0 f1 hr1 hr0 hrr HE4 HB4 HN4
        obtain ⟨⟨f0, f1⟩, _⟩ := drr.two hfb5
        obtain ⟨⟨x0, x1, x2, x3⟩, _⟩ := que.four HB5.out
        clear hfb5
        have c5 := HES5.out.blk.cell 5
        go_upto_region 11 with fail
        go_region_with (go_at_call 32; (with_reducible refine Calls.mono (HCT.out _ ?_) ?_); (focus (exact (Turns.refl _ _).drew)); rintro y w6 ⟨rfl, hes6, ht6⟩; have HES6 := Lib.hid hes6; have HT6 := Lib.hid (Turns.of_drew ht6); clear hes6 ht6)
        all_goals
          clear x0 x1 x2 x3 f0 f1 c5
          have HB6 := Lib.hid (HT6.out.blk HB5.out (fun hk => by
            rcases hk with hk | hk
            · exact blk_ne HB5.out HES5.out.blk (by decide) hk
            · exact drr_off HES5.out HB5.out (by decide) (by decide) hk))
          have HS6 := Lib.hid (HS5.out.trans (Sf.outdrr HES5.out HLO5.out HT6.out))
          have HOW6 := Lib.hid (HS6.out.row HX.out.ow (by decide) (by decide) (by decide) (by decide) (by decide))
          have hlt := HX.out.tot
          have hle : l.length + 1 ≤ 1048576 := by omega
          obtain ⟨⟨x0, x1, x2, x3⟩, _⟩ := que.four HB6.out
          go_wp2_with (at_builtin; refine wpList_append_one (E := SE) Tryz.underlying55 infoSe rfl (by decide) (by decide) rfl _ _ rfl _ l ⟨f.id, ⟨xn, xs, xt, xk⟩⟩ rfl (HOW6.out.turns (S := fun _ => False) ((Turns.refl _ _).alloc _) (fun _ _ h => h)) w6.heap.size rfl (heap_alloc_new w6 _) hle ?_; intro v9 w9 hown9 hgrow9 hat9; have HW9 := Lib.hid (And.intro hown9 (And.intro hgrow9 hat9)); clear hown9 hgrow9 hat9)
          go_roundw
          case rel => exact ⟨_, _, HX.out.go (pv := pv') HRR.out.2.2.2 HF.out.2.2.2 HF.out.1 HF.out.2.1 HF.out.2.2.1 HCR.out (by rw [HGE.out]; exact HES6.out) (by rw [HGE.out]; exact HLO5.out.count _ _) HS6.out HW9.out.1 HW9.out.2.1 HW9.out.2.2⟩
          case measure =>
            obtain ⟨a9, c9, e9, _⟩ := HW9.out.1.form
            have hgt : 0 < Tot e1.L := by
              have h0 : 0 < f.q.L.length := (List.getElem?_eq_some_iff.1 HF.out.2.2.1).1
              have h1 := tot_set HX.out.es.ap HF.out.1 f.pv ⟨f.q.frames, f.q.most, [], f.q.broken⟩
              simp only [List.length_nil] at h1
              omega
            rw [e9]
            show Tot e.L - (l ++ [_]).length < Tot e.L - l.length
            rw [List.length_append, List.length_singleton]
            omega
end Go.Proofs.YtcppibjllaablaaGreat.egr

/-
  egress.Out: Add.
-/
namespace Go.Proofs.YtcppibjllaablaaGreat.egr
open Go.RowKit mem Go.Maps
set_option linter.unusedVariables false

theorem add_there (A : Ad) (k : Nat) (e : Eo) (f : Ef) (v : Bool) (sh : Int) (w : World) (h : Es w A k e) (hf : f ∈ e.L) :
    Calls Tryz.prog 14 #[.pointer (some ⟨A.o, 0, none⟩), .int .i64 f.id, .bool v, .int .i64 sh] w fun x w' => x = .returned (.int .i64 10) ∧ w' = w := by
  have c5 := h.blk.cell 5
  have hr := h.look hf
  clear h
  go_enter Tryz.func14, Tryz.ntmps14
  go_wp2
  go_ret
  exact ⟨rfl, rfl⟩
/-- one flow more, and what the schedule then is -/
def addE (e : Eo) (f : Ef) (s : drr.Sc) : Eo := ⟨e.frames, e.bytes, e.age, e.most, e.guard, e.credit, e.row, e.L ++ [f], s⟩
theorem fnd_snoc (L : List Ef) (f : Ef) (id : Int) : fnd (L ++ [f]) id = (fnd L id).or (if f.id = id then some f else none) := by
  unfold fnd
  rw [List.find?_append]
  congr 1
  by_cases e : f.id = id
  · simp [e]
  · have : (f.id == id) = false := by simpa using e
    simp [this, e]
/-- the memory behind Add -/
theorem Es.add {w w2 w3 w4 : World} {A : Ad} {k : Nat} {e : Eo} (h : Es w A k e) {id : Int} (n0 : -9223372036854775808 ≤ id) (n1 : id ≤ 9223372036854775807) (hf : fnd e.L id = none) {v : Bool} {qb : Nat} {s' : drr.Sc}
    (hq : que.Qs w2 qb (.slice none 0 0) (que.fresh e.frames e.bytes)) (hqb : w.heap.size ≤ qb) (n2 : New w w2)
    (hs : (s' = e.s ∧ v = false ∧ w3 = w2) ∨ (v = true ∧ s'.most = e.s.most ∧ (∀ x, (∃ f ∈ s'.L, f.id = x) ↔ (∃ f ∈ e.s.L, f.id = x) ∨ x = id) ∧ (∃ c D, c ≤ k + 1 ∧ drr.Ss w3 A.sp A.smb c D s') ∧ Turns (· = A.smb) w2 w3))
    {c : Nat} {D : DataW Unit} (hc : c ≤ k) (hmp : w2.ownsMap Tryz.prog 3 drr.ptrE A.mb c D) (hr : Rd D e.L)
    (hg : (w3.alloc (.cells #[.pointer (some ⟨qb, 0, none⟩), .bool v] GB)).grownBy w4 (some A.mb)) (hm4 : w4.ownsMap Tryz.prog 3 drr.ptrE A.mb (c + 1) (D.put (.int .i64 id) (.lit (.int .i64 (w3.heap.size : Int))))) :
    Es w4 A (k + 1) (addE e ⟨id, w3.heap.size, v, qb, .slice none 0 0, que.fresh e.frames e.bytes⟩ s') ∧ Turns (fun i => i = A.mb ∨ i = A.smb) w w4 := by
  have h2 := h.later n2
  obtain ⟨c2, D2, hc2, hss⟩ := h2.sch
  have t3 : Turns (· = A.smb) w2 w3 := by
    rcases hs with ⟨_, _, e3⟩ | ⟨_, _, _, _, t⟩
    · rw [e3]; exact Turns.refl _ _
    · exact t
  have hmp3 := ownsMap_turns hmp t3 h.mm
  have t4 : Turns (· = A.mb) w3 w4 := ((Turns.refl _ w3).alloc (.cells #[.pointer (some ⟨qb, 0, none⟩), .bool v] GB)).trans ((Turns.of_grown hg).mono (fun i _ hi => .inl (by injection hi)))
  have t24 : Turns (fun i => i = A.mb ∨ i = A.smb) w2 w4 := (t3.mono (fun i _ hi => .inr hi)).trans (t4.mono (fun i _ hi => .inl (.inl hi)))
  have hb4 : Blk w4 w3.heap.size #[.pointer (some ⟨qb, 0, none⟩), .bool v] GB := ((Turns.of_grown hg).mono (fun i _ hi => by injection hi) : Turns (· = A.mb) (w3.alloc (.cells #[.pointer (some ⟨qb, 0, none⟩), .bool v] GB)) w4).blk (Blk.new _ _ _) (fun e3 => by have := hmp3.lt; omega)
  have hz2 := n2.size
  have hz3 := t3.size
  have ql := hq.lt
  have off : ∀ {r : Nat} {cs : Array Value} {T : TypeId}, Blk w2 r cs T → ¬ (r = A.mb ∨ r = A.smb) := fun hb hk => by
    rcases hk with e3 | e3
    · exact ownsMap_ne hmp hb e3.symm
    · exact ownsMap_ne hss.map hb e3.symm
  have offr : ∀ {α : Type} {E : Enc α} {v : Value} {l : List α} {T : TypeId}, Owns E T w2 v l → ∀ x, v.ownBlock = some x → ¬ (x = A.mb ∨ x = A.smb) := fun hb x hx hk => by
    rcases hk with e3 | e3
    · exact ownsMap_ne_row hmp hb x hx e3.symm
    · exact ownsMap_ne_row hss.map hb x hx e3.symm
  have hD := hmp.isMap
  have hsch : ∃ c D, c ≤ k + 1 ∧ drr.Ss w4 A.sp A.smb c D s' := by
    have tr : ∀ c D, drr.Ss w3 A.sp A.smb c D s' → drr.Ss w4 A.sp A.smb c D s' := fun c D hx => hx.turns t4 (fun e3 => ownsMap_ne hmp3 hx.blk e3.symm) (fun e3 => h.mm e3.symm) (fun f hf e3 => ownsMap_ne hmp3 (hx.fb f hf) e3.symm)
    rcases hs with ⟨e3, _, e4⟩ | ⟨_, _, _, ⟨c3, D3, hc3, hx⟩, _⟩
    · subst e3 e4
      exact ⟨c2, D2, by omega, tr c2 D2 hss⟩
    · exact ⟨c3, D3, hc3, tr c3 D3 hx⟩
  refine ⟨⟨t24.blk h2.blk (off h2.blk), ⟨c + 1, _, by omega, hm4, ⟨fun x => ?_, fun f hfm z => ?_⟩⟩, fun f hfm => ?_, fun f hfm => ?_, hsch, ?_, h.mm, fun f hfm => ?_, ⟨h.cf.f0, h.cf.f1, h.cf.b0, h.cf.b1, h.cf.a0, h.cf.a1, h.cf.m0, h.cf.m1, h.cf.g0, h.cf.g1, h.cf.c0, h.cf.c1⟩, fun f hfm => ?_, ?_, fun x => ?_⟩, (n2.mono (fun _ _ h => h.elim)).trans (t24.mono (fun i _ hi => .inl hi))⟩
  · show _ = (fnd (e.L ++ [_]) x).isSome
    rw [fnd_snoc]
    by_cases e3 : x = id
    · subst e3
      rw [has_put_same hD (show WideAt.IsKeyLit (.int .i64 x) from trivial), hf]
      simp
    · rw [has_put_other (fun e4 => e3 (by injection e4)), hr.has x]
      have e5 : ¬ id = x := fun e4 => e3 e4.symm
      simp [e5]
  · rcases List.mem_append.1 hfm with hfm | hfm
    · have := fnd_none hf f hfm
      rw [atKey_put_other (fun e3 => this (by injection e3))]
      exact hr.at_ f hfm z
    · simp at hfm; subst hfm
      exact atKey_put_same hD (show WideAt.IsKeyLit (.int .i64 id) from trivial) _ _
  · rcases List.mem_append.1 hfm with hfm | hfm
    · exact t24.blk (h2.fb f hfm) (off (h2.fb f hfm))
    · simp at hfm; subst hfm
      exact hb4
  · rcases List.mem_append.1 hfm with hfm | hfm
    · exact (h2.qs f hfm).turns t24 (off (h2.qs f hfm).blk) (offr (h2.qs f hfm).own)
    · simp at hfm; subst hfm
      exact hq.turns t24 (off hq.blk) (offr hq.own)
  · show (e.L ++ [_]).Pairwise Apart
    rw [List.pairwise_append]
    refine ⟨h.ap, List.pairwise_singleton _ _, fun f hfm g hg => ?_⟩
    simp at hg; subst hg
    have l1 := (h2.fb f hfm).lt
    have l2 := (h.qs f hfm).lt
    exact ⟨fnd_none hf f hfm, (by show f.fb ≠ w3.heap.size; omega), (by show f.qb ≠ qb; omega), (fun x _ e3 => by simp [Value.ownBlock] at e3)⟩
  · rcases List.mem_append.1 hfm with hfm | hfm
    · exact h.rg f hfm
    · simp at hfm; subst hfm
      exact ⟨n0, n1⟩
  · rcases List.mem_append.1 hfm with hfm | hfm
    · have := h.fq f hfm
      exact ⟨this.fr, this.mo, this.sz⟩
    · simp at hfm; subst hfm
      exact ⟨rfl, rfl, (fun x hx => by cases hx)⟩
  · rcases hs with ⟨e3, _, _⟩ | ⟨_, e3, _⟩
    · rw [e3]; exact h.sm
    · exact e3.trans h.sm
  · show (∃ f ∈ s'.L, f.id = x) ↔ ∃ f ∈ e.L ++ [_], f.id = x ∧ f.video = true
    have hv := h.vs x
    rcases hs with ⟨e3, e4, _⟩ | ⟨e4, _, e5, _⟩
    · rw [e3, hv]
      constructor
      · rintro ⟨f, hfm, hx⟩
        exact ⟨f, List.mem_append_left _ hfm, hx⟩
      · rintro ⟨f, hfm, hx, hy⟩
        rcases List.mem_append.1 hfm with hfm | hfm
        · exact ⟨f, hfm, hx, hy⟩
        · simp at hfm; subst hfm
          rw [e4] at hy; cases hy
    · rw [e5 x, hv]
      constructor
      · rintro (⟨f, hfm, hx⟩ | hx)
        · exact ⟨f, List.mem_append_left _ hfm, hx⟩
        · exact ⟨_, List.mem_append_right _ List.mem_cons_self, hx.symm, e4⟩
      · rintro ⟨f, hfm, hx, hy⟩
        rcases List.mem_append.1 hfm with hfm | hfm
        · exact .inl ⟨f, hfm, hx, hy⟩
        · simp at hfm; subst hfm
          exact .inr hx.symm

set_option maxRecDepth 100000 in
set_option maxHeartbeats 2000000 in
theorem add_sound (A : Ad) (k : Nat) (e : Eo) (id sh : Int) (w : World) (h : Es w A k e) (n0 : -9223372036854775808 ≤ id) (n1 : id ≤ 9223372036854775807) (hf : fnd e.L id = none) (hk : k ≤ 1048576) :
    Calls Tryz.prog 14 #[.pointer (some ⟨A.o, 0, none⟩), .int .i64 id, .bool false, .int .i64 sh] w fun x w' => x = .returned (.int .i64 0) ∧ ∃ fb qb, w.heap.size ≤ fb ∧ w.heap.size ≤ qb ∧ Es w' A (k + 1) (addE e ⟨id, fb, false, qb, .slice none 0 0, que.fresh e.frames e.bytes⟩ e.s) ∧ Turns (fun i => i = A.mb ∨ i = A.smb) w w' := by
  have hr := h.look_none hf n0 n1
  obtain ⟨⟨c0, c1, c2, c3, c4, c5, c6, c7, c8⟩, _⟩ := nine h.blk
  have HQ := Lib.hid (fun W => que.new e.frames e.bytes W h.cf.f0 h.cf.f1 h.cf.b0 h.cf.b1)
  have HH := Lib.hid h
  have HF := Lib.hid hf
  clear h hf
  go_enter Tryz.func14, Tryz.ntmps14
  go_upto_region 4 with fail
  clear hr
  go_region_with (go_at_call 37; (with_reducible refine Calls.mono (HQ.out _) ?_); rintro x w2 ⟨rfl, hq, n2⟩; have HQS := Lib.hid hq; have HN2 : Hid (New w w2) := Lib.hid (Turns.of_drew n2); clear hq n2)
  all_goals
    have HE2 := Lib.hid (HH.out.later HN2.out)
    clear c0 c1 c2 c3 c4 c5 c6 c7 c8
    obtain ⟨⟨c0, c1, c2, c3, c4, c5, c6, c7, c8⟩, _⟩ := nine HE2.out.blk
    obtain ⟨c, D, hc, hmp, hrd⟩ := HE2.out.map
    have HMP := Lib.hid hmp
    have HRD := Lib.hid hrd
    have hval : drr.ptrE (.pointer (some ⟨w2.heap.size, 0, none⟩)) = some (.lit (.int .i64 (w2.heap.size : Int)), []) := rfl
    have hkey := drr.keyI n0 n1
    have hmx : c < maxLen := by unfold maxLen; omega
    clear hmp hrd
    go_wp2_with (at_mapUpdate; refine wpList_mapUpdate_own _ rfl _ _ _ 95 rfl 3 102 drr.lawI Tryz.underlying95 drr.ptrE A.mb c D rfl (HMP.out.alloc (.cells #[.pointer (some ⟨w.heap.size, 0, none⟩), .bool false] GB)) hmx _ _ _ rfl rfl hkey _ [] hval ?_; intro wm hownm hgrowm; have HM := Lib.hid hownm; have HG := Lib.hid hgrowm; clear hownm hgrowm)
    go_ret
    have HA := HH.out.add n0 n1 HF.out (v := false) (s' := e.s) HQS.out (Nat.le_refl _) HN2.out (.inl ⟨rfl, rfl, rfl⟩) hc HMP.out HRD.out HG.out HM.out
    exact ⟨rfl, _, _, HN2.out.size, Nat.le_refl _, HA.1, HA.2⟩

theorem Es.no_pic {w : World} {A : Ad} {k : Nat} {e : Eo} (h : Es w A k e) {id : Int} (hf : fnd e.L id = none) : drr.fnd e.s.L id = none := by
  cases hx : drr.fnd e.s.L id with
  | none => rfl
  | some f =>
    obtain ⟨h1, h2⟩ := drr.fnd_some hx
    obtain ⟨g, hg, hid, _⟩ := (h.vs id).1 ⟨f, h1, h2⟩
    exact absurd hid (fnd_none hf g hg)
theorem adds_iff (s : drr.Sc) (id : Int) (b : Nat) (sh x : Int) : (∃ f ∈ (drr.addS s id b sh).L, f.id = x) ↔ (∃ f ∈ s.L, f.id = x) ∨ x = id := by
  constructor
  · rintro ⟨f, hf, hx⟩
    rcases List.mem_append.1 hf with hf | hf
    · exact .inl ⟨f, hf, hx⟩
    · simp at hf; subst hf
      exact .inr hx.symm
  · rintro (⟨f, hf, hx⟩ | hx)
    · exact ⟨f, List.mem_append_left _ hf, hx⟩
    · exact ⟨_, List.mem_append_right _ List.mem_cons_self, hx.symm⟩
set_option maxRecDepth 100000 in
set_option maxHeartbeats 2000000 in
theorem add_video (A : Ad) (k : Nat) (e : Eo) (id sh : Int) (w : World) (h : Es w A k e) (n0 : -9223372036854775808 ≤ id) (n1 : id ≤ 9223372036854775807) (hf : fnd e.L id = none) (hk : k ≤ 1048576) (hs0 : e.most ≤ sh) (hs1 : sh ≤ 16777216) :
    Calls Tryz.prog 14 #[.pointer (some ⟨A.o, 0, none⟩), .int .i64 id, .bool true, .int .i64 sh] w fun x w' => x = .returned (.int .i64 0) ∧ ∃ fb qb sb, w.heap.size ≤ fb ∧ w.heap.size ≤ qb ∧ w.heap.size ≤ sb ∧ Es w' A (k + 1) (addE e ⟨id, fb, true, qb, .slice none 0 0, que.fresh e.frames e.bytes⟩ (drr.addS e.s id sb sh)) ∧ Turns (fun i => i = A.mb ∨ i = A.smb) w w' := by
  have hr := h.look_none hf n0 n1
  obtain ⟨⟨c0, c1, c2, c3, c4, c5, c6, c7, c8⟩, _⟩ := nine h.blk
  have HQ := Lib.hid (fun W => que.new e.frames e.bytes W h.cf.f0 h.cf.f1 h.cf.b0 h.cf.b1)
  have HH := Lib.hid h
  have HF := Lib.hid hf
  have HNP := Lib.hid (h.no_pic hf)
  have hsm := h.sm
  have HSH : Hid (e.s.most ≤ sh ∧ sh ≤ 16777216) := Lib.hid ⟨by rw [hsm]; exact hs0, hs1⟩
  clear h hf hsm hs0 hs1
  go_enter Tryz.func14, Tryz.ntmps14
  go_upto_region 4 with fail
  clear hr
  go_region_with (go_at_call 37; (with_reducible refine Calls.mono (HQ.out _) ?_); rintro x w2 ⟨rfl, hq, n2⟩; have HQS := Lib.hid hq; have HN2 : Hid (New w w2) := Lib.hid (Turns.of_drew n2); clear hq n2)
  all_goals
    have HE2 := Lib.hid (HH.out.later HN2.out)
    clear c0 c1 c2 c3 c4 c5 c6 c7 c8
    obtain ⟨⟨c0, c1, c2, c3, c4, c5, c6, c7, c8⟩, _⟩ := nine HE2.out.blk
    obtain ⟨c, D, hc, hmp, hrd⟩ := HE2.out.map
    obtain ⟨d, DS, hd, hss⟩ := HE2.out.sch
    have HMP := Lib.hid hmp
    have HRD := Lib.hid hrd
    have HAD := Lib.hid (drr.add_ok A.sp A.smb d DS e.s id sh w2 hss HSH.out.1 HSH.out.2 n0 n1 HNP.out (by omega))
    clear hmp hrd hss
    go_wp2_with fail
    refine HAD.out.mono ?_
    rintro x w3 ⟨rfl, hs3, ht3⟩
    have HS3 := Lib.hid hs3
    have HT3 := Lib.hid ht3
    have hcell := fun i => ht3.cell (a := ⟨A.o, i, none⟩) HE2.out.lt (fun e2 => by obtain ⟨_, _, _, hx⟩ := HE2.out.sch; exact ownsMap_ne hx.map HE2.out.blk e2.symm)
    have b5 := (hcell 5).trans c5
    have HM3 := Lib.hid (ownsMap_turns HMP.out ht3 HE2.out.mm)
    have hval : drr.ptrE (.pointer (some ⟨w3.heap.size, 0, none⟩)) = some (.lit (.int .i64 (w3.heap.size : Int)), []) := rfl
    have hkey := drr.keyI n0 n1
    have hmx : c < maxLen := by unfold maxLen; omega
    clear hs3 ht3 hcell HAD c0 c1 c2 c3 c4 c5 c6 c7 c8
    go_wp2_with (at_mapUpdate; refine wpList_mapUpdate_own _ rfl _ _ _ 95 rfl 3 102 drr.lawI Tryz.underlying95 drr.ptrE A.mb c D rfl (HM3.out.alloc (.cells #[.pointer (some ⟨w.heap.size, 0, none⟩), .bool true] GB)) hmx _ _ _ rfl rfl hkey _ [] hval ?_; intro wm hownm hgrowm; have HM := Lib.hid hownm; have HG := Lib.hid hgrowm; clear hownm hgrowm)
    go_ret
    have HA := HH.out.add n0 n1 HF.out (v := true) (s' := drr.addS e.s id w2.heap.size sh) HQS.out (Nat.le_refl _) HN2.out (.inr ⟨rfl, rfl, fun x => adds_iff _ _ _ _ _, ⟨_, _, by omega, HS3.out⟩, HT3.out⟩) hc HMP.out HRD.out HG.out HM.out
    exact ⟨rfl, _, _, _, Nat.le_trans HN2.out.size HT3.out.size, Nat.le_refl _, HN2.out.size, HA.1, HA.2⟩
set_option maxRecDepth 100000 in
set_option maxHeartbeats 2000000 in
theorem add_bad (A : Ad) (k : Nat) (e : Eo) (id sh : Int) (w : World) (h : Es w A k e) (n0 : -9223372036854775808 ≤ id) (n1 : id ≤ 9223372036854775807) (hf : fnd e.L id = none) (hs : sh < e.most ∨ 16777216 < sh) :
    Calls Tryz.prog 14 #[.pointer (some ⟨A.o, 0, none⟩), .int .i64 id, .bool true, .int .i64 sh] w fun x w' => x = .returned (.int .i64 5) ∧ New w w' := by
  have hr := h.look_none hf n0 n1
  obtain ⟨⟨c0, c1, c2, c3, c4, c5, c6, c7, c8⟩, _⟩ := nine h.blk
  have HQ := Lib.hid (fun W => que.new e.frames e.bytes W h.cf.f0 h.cf.f1 h.cf.b0 h.cf.b1)
  have HH := Lib.hid h
  have hsm := h.sm
  have HSH : Hid (sh < e.s.most ∨ 16777216 < sh) := Lib.hid (by rw [hsm]; exact hs)
  clear h hf hsm hs
  go_enter Tryz.func14, Tryz.ntmps14
  go_upto_region 4 with fail
  clear hr
  go_region_with (go_at_call 37; (with_reducible refine Calls.mono (HQ.out _) ?_); rintro x w2 ⟨rfl, hq, n2⟩; have HN2 : Hid (New w w2) := Lib.hid (Turns.of_drew n2); clear hq n2)
  all_goals
    have HE2 := Lib.hid (HH.out.later HN2.out)
    clear c0 c1 c2 c3 c4 c5 c6 c7 c8
    obtain ⟨⟨c0, c1, c2, c3, c4, c5, c6, c7, c8⟩, _⟩ := nine HE2.out.blk
    obtain ⟨d, DS, hd, hss⟩ := HE2.out.sch
    have HAD := Lib.hid (drr.add_bad A.sp A.smb d DS e.s id sh w2 hss HSH.out)
    clear hss
    go_wp2_with fail
    refine HAD.out.mono ?_
    rintro x w3 ⟨rfl, rfl⟩
    go_wp2
    go_ret
    exact ⟨rfl, HN2.out⟩
end Go.Proofs.YtcppibjllaablaaGreat.egr

/-
  Layer 20's laws: an outlet made since a world; awake.
-/
namespace Go.Proofs.YtcppibjllaablaaGreat.egr
open Go.RowKit mem Go.Maps
open Go.Proofs.YtcppibjllaablaaGreat.itr
set_option linter.unusedVariables false

/-- an outlet that lies at b or behind it -/
structure Ru (b : Nat) (w wr : World) (A : Ad) (k : Nat) (e : Eo) : Prop where
  es : Es wr A k e
  lo : Lo b A e
  sf : Sf b A w wr
section
variable {b : Nat} {w wr w2 : World} {A : Ad} {k : Nat} {e : Eo}
theorem Ru.base (h : Ru b w wr A k e) : b ≤ wr.heap.size := Nat.le_trans h.lo.o (Nat.le_of_lt h.es.blk.lt)
theorem Ru.later (h : Ru b w wr A k e) (n : New wr w2) : Ru b w w2 A k e := ⟨h.es.later n, h.lo, h.sf.trans (Sf.new n)⟩
theorem Ru.more (h : Ru b w wr A k e) {k' : Nat} (hk : k ≤ k') : Ru b w wr A k' e := ⟨h.es.more hk, h.lo, h.sf⟩
theorem Made.ru {w w1 : World} (h : Made w w1 A k e) : Ru w.heap.size w w1 A k e := ⟨h.es, h.lo, Sf.new h.n⟩
theorem Ru.add (h : Ru b w wr A k e) {k' : Nat} {f : Ef} {s' : drr.Sc} (hes : Es w2 A k' (addE e f s')) (t : Turns (fun i => i = A.mb ∨ i = A.smb) wr w2) (hq : wr.heap.size ≤ f.qb) (hp : f.pv = .slice none 0 0) (hs : ∀ g ∈ s'.L, g ∈ e.s.L ∨ wr.heap.size ≤ g.b) : Ru b w w2 A k' (addE e f s') := by
  have hb := h.base
  refine ⟨hes, ⟨h.lo.o, h.lo.m, h.lo.s, h.lo.t, fun g hg => ?_, fun g hg => ?_⟩, h.sf.trans (Sf.maps h.es h.lo t)⟩
  · rcases List.mem_append.1 hg with hg | hg
    · exact h.lo.q g hg
    · simp at hg; subst hg
      exact ⟨by omega, fun x hx => by rw [hp] at hx; simp [Value.ownBlock] at hx⟩
  · rcases hs g hg with hg | hg
    · exact h.lo.g g hg
    · omega
theorem Ru.put (h : Ru b w wr A k e) {f : Ef} (hf : f ∈ e.L) {pv' : Value} {q' : que.Q} (hes : Es w2 A k ⟨e.frames, e.bytes, e.age, e.most, e.guard, e.credit, e.row, setQ e.L f.id pv' q', e.s⟩) (t : Turns (que.Foot f.qb f.pv) wr w2) (hl : pv'.ownBlock = f.pv.ownBlock ∨ ∃ g, pv'.ownBlock = some g ∧ wr.heap.size ≤ g) : Ru b w w2 A k ⟨e.frames, e.bytes, e.age, e.most, e.guard, e.credit, e.row, setQ e.L f.id pv' q', e.s⟩ :=
  ⟨hes, h.lo.setQ hf h.base hl, h.sf.trans (Sf.que h.es h.lo hf t)⟩
theorem Ru.grant (h : Ru b w wr A k e) {c : Int} (hes : Es w2 A k ⟨e.frames, e.bytes, e.age, e.most, e.guard, c, e.row, e.L, e.s⟩) (t : Turns (· = A.o) wr w2) : Ru b w w2 A k ⟨e.frames, e.bytes, e.age, e.most, e.guard, c, e.row, e.L, e.s⟩ :=
  ⟨hes, ⟨h.lo.o, h.lo.m, h.lo.s, h.lo.t, h.lo.q, h.lo.g⟩, h.sf.trans (Sf.out h.es h.lo t)⟩
end

/-! ### awake -/
def qS : Nat → que.Q
  | 0 => que.fresh 9 99
  | n + 1 => que.putQ (qS n) ⟨(n : Int), 1, 0, true⟩
def eA (fb1 qb1 fb2 qb2 sb j : Nat) (pv pv2 : Value) (q2 : que.Q) (c : Int) : Eo := ⟨9, 99, 9, 9, 2, c, 0, [⟨1, fb1, false, qb1, pv, qS j⟩, ⟨2, fb2, true, qb2, pv2, q2⟩], drr.addS (drr.fresh 9) 2 sb 9⟩
def q2A : que.Q := que.putQ (que.fresh 9 99) ⟨9, 5, 0, true⟩
def l4 : List Snt := [⟨1, ⟨0, 1, 0, true⟩⟩, ⟨1, ⟨1, 1, 0, true⟩⟩, ⟨2, ⟨9, 5, 0, true⟩⟩, ⟨1, ⟨2, 1, 0, true⟩⟩]
theorem run_l (n : Nat) : (runR [1, 2] (n + 5) (eE (eA 0 0 0 0 0 3 (.slice none 0 0) (.slice none 0 0) q2A 100))).1 = l4 := by kernel_rfl
theorem run_c (n : Nat) : (runR [1, 2] (n + 5) (eE (eA 0 0 0 0 0 3 (.slice none 0 0) (.slice none 0 0) q2A 100))).2.credit = 92 := by kernel_rfl
theorem ids12 {fb1 qb1 fb2 qb2 sb j : Nat} {pv pv2 : Value} {q2 : que.Q} {c : Int} : idS (eA fb1 qb1 fb2 qb2 sb j pv pv2 q2 c).L = [1, 2] := by
  show ([1, 2] : List Int).mergeSort (fun x y => decide (x ≤ y)) = [1, 2]
  exact sorted_is (List.Perm.refl _) (by decide)
theorem ran4 {fb1 qb1 fb2 qb2 sb : Nat} {pv pv2 : Value} {l : List Snt} {e' : Eo} (h : Ran (eA fb1 qb1 fb2 qb2 sb 3 pv pv2 q2A 100) l e') (hn : Nd (eA fb1 qb1 fb2 qb2 sb 3 pv pv2 q2A 100).L) : l = l4 ∧ e'.credit = 92 := by
  have h1 := h.run hn 5
  rw [ids12] at h1
  have h2 := run_l l.length
  have h3 := run_c l.length
  have e : eE (eA fb1 qb1 fb2 qb2 sb 3 pv pv2 q2A 100) = eE (eA 0 0 0 0 0 3 (.slice none 0 0) (.slice none 0 0) q2A 100) := rfl
  rw [e] at h1
  rw [h1] at h2 h3
  exact ⟨h2, h3⟩
theorem tot4 (fb1 qb1 fb2 qb2 sb : Nat) (pv pv2 : Value) (c : Int) : Tot (eA fb1 qb1 fb2 qb2 sb 3 pv pv2 q2A c).L ≤ 1048575 := by
  have : Tot (eA fb1 qb1 fb2 qb2 sb 3 pv pv2 q2A c).L = 4 := by kernel_rfl
  omega
theorem fnd_A {fb qb : Nat} {v : Bool} {pv : Value} {q : que.Q} : fnd [⟨1, fb, v, qb, pv, q⟩] 2 = none := rfl
end Go.Proofs.YtcppibjllaablaaGreat.egr

/-
  egress.Out: Broken, Break, Waits.
-/
namespace Go.Proofs.YtcppibjllaablaaGreat.egr
open Go.RowKit mem Go.Maps
set_option linter.unusedVariables false

theorem waits_none (A : Ad) (k : Nat) (e : Eo) (id : Int) (w : World) (h : Es w A k e) (hf : fnd e.L id = none) (n0 : -9223372036854775808 ≤ id) (n1 : id ≤ 9223372036854775807) : Calls Tryz.prog 12 #[.pointer (some ⟨A.o, 0, none⟩), .int .i64 id] w fun x w' => x = .returned (.tuple #[.int .i64 0, .int .i64 0]) ∧ w' = w := by
  have c5 := h.blk.cell 5
  have hr := h.look_none hf n0 n1
  clear h hf
  go_enter Tryz.func12, Tryz.ntmps12
  go_wp2
  go_ret2
  exact ⟨rfl, rfl⟩
theorem break_none (A : Ad) (k : Nat) (e : Eo) (id : Int) (w : World) (h : Es w A k e) (hf : fnd e.L id = none) (n0 : -9223372036854775808 ≤ id) (n1 : id ≤ 9223372036854775807) : Calls Tryz.prog 73 #[.pointer (some ⟨A.o, 0, none⟩), .int .i64 id] w fun x w' => x = .returned (.slice none 0 0) ∧ w' = w := by
  have c5 := h.blk.cell 5
  have hr := h.look_none hf n0 n1
  clear h hf
  go_enter Tryz.func73, Tryz.ntmps73
  go_wp2
  go_ret
  exact ⟨rfl, rfl⟩
/-- what a queue's call that takes items out leaves -/
theorem gone_lft {w w' : World} {p : Nat} {pv v : Value} {q : que.Q} {D : List que.It} (h : que.Gone w w' p pv q v D) : que.Lft w w' p pv q := by
  obtain ⟨pv', h1, h2⟩ := h.qs
  exact ⟨⟨pv', h1, .inl h2⟩, h.turns⟩
def brkQ (q : que.Q) : que.Q := ⟨q.frames, q.most, [], true⟩
set_option maxRecDepth 100000 in
set_option maxHeartbeats 1000000 in
theorem break_some (A : Ad) (k : Nat) (e : Eo) (f : Ef) (w : World) (h : Es w A k e) (hf : f ∈ e.L) :
    Calls Tryz.prog 73 #[.pointer (some ⟨A.o, 0, none⟩), .int .i64 f.id] w fun z w' => ∃ u pv', z = .returned u ∧ Es w' A k ⟨e.frames, e.bytes, e.age, e.most, e.guard, e.credit, e.row, setQ e.L f.id pv' (brkQ f.q), e.s⟩ ∧ Turns (que.Foot f.qb f.pv) w w' ∧ Owns SE SeT w' u (nam f.id f.q.L) ∧ (∀ g, u.ownBlock = some g → w.heap.size ≤ g) ∧ (pv'.ownBlock = f.pv.ownBlock ∨ ∃ g, pv'.ownBlock = some g ∧ w.heap.size ≤ g) := by
  have c5 := h.blk.cell 5
  have hr := h.look hf
  obtain ⟨⟨f0, f1⟩, _⟩ := drr.two (h.fb f hf)
  have HB := Lib.hid (que.break_ f.qb f.pv f.q w (h.qs f hf))
  have HSM : Hid (f.q.L.length ≤ 1048576) := Lib.hid (by have := (h.qs f hf).small; omega)
  have HH := Lib.hid h
  have HF := Lib.hid hf
  clear h hf
  go_enter Tryz.func73, Tryz.ntmps73
  go_wp2_with fail
  refine HB.out.mono ?_
  rintro x w1 ⟨v, rfl, hg⟩
  have HG := Lib.hid hg
  clear hg c5 hr f0 f1 HB
  have HNM := Lib.hid (named f.id v _ w1 HG.out.fr.own HSM.out)
  go_wp2_with fail
  refine HNM.out.mono ?_
  rintro x w2 ⟨u, rfl, hu⟩
  have HU := Lib.hid hu
  clear hu HNM
  go_wp2
  go_ret
  obtain ⟨pv', hloc, hes⟩ := HH.out.queue HF.out (q' := brkQ f.q) (gone_lft HG.out) rfl rfl (fun z hz => by cases hz)
  exact ⟨u, pv', rfl, hes.later HU.out.n, HG.out.turns.trans (HU.out.n.mono (fun _ _ h => h.elim)), HU.out.own, (fun g hg => Nat.le_trans HG.out.turns.size (HU.out.vb g hg)), hloc⟩
set_option maxRecDepth 100000 in
set_option maxHeartbeats 1000000 in
theorem waits_some (A : Ad) (k : Nat) (e : Eo) (f : Ef) (w : World) (h : Es w A k e) (hf : f ∈ e.L) :
    Calls Tryz.prog 12 #[.pointer (some ⟨A.o, 0, none⟩), .int .i64 f.id] w fun x w' => x = .returned (.tuple #[.int .i64 f.q.L.length, .int .i64 (que.sumL f.q.L)]) ∧ New w w' := by
  have c5 := h.blk.cell 5
  have hr := h.look hf
  obtain ⟨⟨f0, f1⟩, _⟩ := drr.two (h.fb f hf)
  have HQ := Lib.hid (h.qs f hf)
  have HL := Lib.hid (fun W hq => que.len f.qb f.pv f.q W hq)
  have HZ := Lib.hid (fun W hq => que.size f.qb f.pv f.q W hq)
  clear h hf
  go_enter Tryz.func12, Tryz.ntmps12
  go_upto_region 4 with fail
  go_quiet ((first
    | (go_at_call 33; exact Calls.quiet_of_same (HL.out _ (HQ.out.drewN _)))
    | (go_at_call 34; exact Calls.quiet_of_same (HZ.out _ (HQ.out.drewN _)))))
  go_wp2
  go_ret2
  exact ⟨rfl, (Turns.refl _ _).drewN _⟩
end Go.Proofs.YtcppibjllaablaaGreat.egr

/-
  egress.Out: Remove.
-/
namespace Go.Proofs.YtcppibjllaablaaGreat.egr
open Go.RowKit mem Go.Maps
set_option linter.unusedVariables false

theorem fnd_filter (L : List Ef) (id x : Int) : fnd (L.filter (fun f => f.id != id)) x = if x = id then none else fnd L x := by
  unfold fnd
  rw [List.find?_filter]
  by_cases e : x = id
  · rw [if_pos e]
    refine List.find?_eq_none.2 (fun f _ => ?_)
    by_cases e2 : f.id = id
    · simp [e2]
    · have : ¬ f.id = x := fun e3 => e2 (e3.trans e)
      simp [this]
  · rw [if_neg e]
    congr 1
    funext f
    by_cases e2 : f.id = x
    · have : ¬ x = id := e
      simp [e2, this]
    · simp [e2]
def remE (e : Eo) (id : Int) (s' : drr.Sc) : Eo := ⟨e.frames, e.bytes, e.age, e.most, e.guard, e.credit, e.row, e.L.filter (fun f => f.id != id), s'⟩
theorem Es.rem {w w2 : World} {A : Ad} {k : Nat} {e : Eo} (h : Es w A k e) {f : Ef} (hf : f ∈ e.L) {s' : drr.Sc} {c : Nat} {D : DataW Unit} (hc : c ≤ k) (hmp : w.ownsMap Tryz.prog 3 drr.ptrE A.mb c D) (hr : Rd D e.L)
    (hm : w2.ownsMap Tryz.prog 3 drr.ptrE A.mb c (D.del (.int .i64 f.id))) (hs : ∃ c D, c ≤ k ∧ drr.Ss w2 A.sp A.smb c D s') (hvs : ∀ x, (∃ g ∈ s'.L, g.id = x) ↔ (∃ g ∈ e.s.L, g.id = x) ∧ x ≠ f.id) (hmo : s'.most = e.s.most)
    (t : Turns (fun i => i = A.mb ∨ i = A.sp ∨ i = A.smb) w w2) : Es w2 A k (remE e f.id s') := by
  obtain ⟨c2, D2, hc2, hss⟩ := h.sch
  have off : ∀ {r : Nat} {cs : Array Value} {T : TypeId}, Blk w r cs T → T ≠ 174 → ¬ (r = A.mb ∨ r = A.sp ∨ r = A.smb) := fun hb hT hk => by
    rcases hk with e3 | e3 | e3
    · exact ownsMap_ne hmp hb e3.symm
    · exact blk_ne hb hss.blk hT e3
    · exact ownsMap_ne hss.map hb e3.symm
  have offr : ∀ {α : Type} {E : Enc α} {v : Value} {l : List α} {T : TypeId}, Owns E T w v l → T ≠ 174 → ∀ x, v.ownBlock = some x → ¬ (x = A.mb ∨ x = A.sp ∨ x = A.smb) := fun hb hT x hx hk => by
    rcases hk with e3 | e3 | e3
    · exact ownsMap_ne_row hmp hb x hx e3.symm
    · exact own_ne hb hss.blk hT (by rw [hx, e3])
    · exact ownsMap_ne_row hss.map hb x hx e3.symm
  refine ⟨t.blk h.blk (off h.blk (by decide)), ⟨c, _, hc, hm, ⟨fun x => ?_, fun g hg z => ?_⟩⟩, fun g hg => ?_, fun g hg => ?_, hs, h.ap.filter _, h.mm, fun g hg => h.rg g (List.mem_filter.1 hg).1, ⟨h.cf.f0, h.cf.f1, h.cf.b0, h.cf.b1, h.cf.a0, h.cf.a1, h.cf.m0, h.cf.m1, h.cf.g0, h.cf.g1, h.cf.c0, h.cf.c1⟩, fun g hg => ?_, hmo.trans h.sm, fun x => ?_⟩
  · show _ = (fnd (e.L.filter _) x).isSome
    rw [fnd_filter]
    by_cases e3 : x = f.id
    · rw [if_pos e3, e3, has_del_same]; rfl
    · rw [if_neg e3, has_del_other (fun e2 => e3 (by injection e2)), hr.has x]
  · obtain ⟨hg, hne⟩ := List.mem_filter.1 hg
    simp at hne
    rw [atKey_del_other (fun e2 => hne (by injection e2))]
    exact hr.at_ g hg z
  · have hg := (List.mem_filter.1 hg).1
    exact t.blk (h.fb g hg) (off (h.fb g hg) (by decide))
  · have hg := (List.mem_filter.1 hg).1
    exact (h.qs g hg).turns t (off (h.qs g hg).blk (by decide)) (offr (h.qs g hg).own (by decide))
  · have hg := (List.mem_filter.1 hg).1
    exact ⟨(h.fq g hg).fr, (h.fq g hg).mo, (h.fq g hg).sz⟩
  · show (∃ g ∈ s'.L, g.id = x) ↔ ∃ g ∈ e.L.filter (fun y => y.id != f.id), g.id = x ∧ g.video = true
    rw [hvs x, h.vs x]
    constructor
    · rintro ⟨⟨g, hg, hx, hv⟩, hne⟩
      exact ⟨g, List.mem_filter.2 ⟨hg, by simp; omega⟩, hx, hv⟩
    · rintro ⟨g, hg, hx, hv⟩
      obtain ⟨hg, hne⟩ := List.mem_filter.1 hg
      simp at hne
      exact ⟨⟨g, hg, hx, hv⟩, by omega⟩
/-- a queue that is no flow's turns -/
theorem Es.stray {w w' : World} {A : Ad} {k : Nat} {e : Eo} (h : Es w A k e) {f : Ef} (hq : que.Qs w f.qb f.pv f.q) (hap : ∀ g ∈ e.L, Apart g f) (t : Turns (que.Foot f.qb f.pv) w w') : Es w' A k e := by
  obtain ⟨c, D, hc, hmp, hr⟩ := h.map
  obtain ⟨c2, D2, hc2, hss⟩ := h.sch
  have off : ∀ {r : Nat} {cs : Array Value} {T : TypeId}, Blk w r cs T → T ≠ 170 → T ≠ 67 → ¬ que.Foot f.qb f.pv r := fun hb h1 h2 hk => by
    rcases hk with e2 | e2
    · exact blk_ne hb hq.blk h1 e2
    · exact own_ne hq.own hb (fun e3 => h2 e3.symm) e2
  have offm : ∀ {b n : Nat} {D : DataW Unit}, w.ownsMap Tryz.prog 3 drr.ptrE b n D → ¬ que.Foot f.qb f.pv b := fun hm hk => by
    rcases hk with e2 | e2
    · exact ownsMap_ne hm hq.blk e2
    · exact ownsMap_ne_row hm hq.own _ e2 rfl
  refine ⟨t.blk h.blk (off h.blk (by decide) (by decide)), ⟨c, D, hc, ownsMap_turns hmp t (offm hmp), hr⟩, fun g hg => t.blk (h.fb g hg) (off (h.fb g hg) (by decide) (by decide)), fun g hg => ?_, ⟨c2, D2, hc2, hss.turns t (off hss.blk (by decide) (by decide)) (offm hss.map) (fun g hg => off (hss.fb g hg) (by decide) (by decide))⟩, h.ap, h.mm, h.rg, h.cf, h.fq, h.sm, h.vs⟩
  have hp := hap g hg
  refine (h.qs g hg).turns t (fun hk => ?_) (fun x hx hk => ?_)
  · rcases hk with e3 | e3
    · exact hp.2.2.1 e3
    · exact own_ne hq.own (h.qs g hg).blk (by decide) e3
  · rcases hk with e3 | e3
    · exact own_ne (h.qs g hg).own hq.blk (by decide) (by rw [hx, e3])
    · exact hp.2.2.2 x hx e3
theorem remove_none (A : Ad) (k : Nat) (e : Eo) (id : Int) (w : World) (h : Es w A k e) (hf : fnd e.L id = none) (n0 : -9223372036854775808 ≤ id) (n1 : id ≤ 9223372036854775807) : Calls Tryz.prog 71 #[.pointer (some ⟨A.o, 0, none⟩), .int .i64 id] w fun x w' => x = .returned (.tuple #[.slice none 0 0, .int .i64 12]) ∧ w' = w := by
  have c5 := h.blk.cell 5
  have hr := h.look_none hf n0 n1
  clear h hf
  go_enter Tryz.func71, Tryz.ntmps71
  go_wp2
  go_ret2
  exact ⟨rfl, rfl⟩
theorem sound_vs {w : World} {A : Ad} {k : Nat} {e : Eo} (h : Es w A k e) {f : Ef} (hf : f ∈ e.L) (hv : f.video = false) : ∀ x, (∃ g ∈ e.s.L, g.id = x) ↔ (∃ g ∈ e.s.L, g.id = x) ∧ x ≠ f.id := fun x => by
  constructor
  · rintro ⟨g, hg, rfl⟩
    refine ⟨⟨g, hg, rfl⟩, fun e2 => ?_⟩
    obtain ⟨y, hy, hid, hvy⟩ := (h.vs g.id).1 ⟨g, hg, rfl⟩
    rcases h.ap.two hy hf with e3 | e3
    · rw [e3, hv] at hvy; cases hvy
    · exact e3.1 (hid.trans e2)
  · exact fun h => h.1
theorem pic_vs (s : drr.Sc) (id : Int) : ∀ x, (∃ g ∈ (drr.remS s id).L, g.id = x) ↔ (∃ g ∈ s.L, g.id = x) ∧ x ≠ id := fun x => by
  constructor
  · rintro ⟨g, hg, rfl⟩
    obtain ⟨hg, hne⟩ := List.mem_filter.1 hg
    simp at hne
    exact ⟨⟨g, hg, rfl⟩, hne⟩
  · rintro ⟨⟨g, hg, rfl⟩, hne⟩
    exact ⟨g, List.mem_filter.2 ⟨hg, by simpa using hne⟩, rfl⟩
/-- the schedule without a flow -/
def goS (e : Eo) (f : Ef) : drr.Sc := if f.video = true then drr.remS e.s f.id else e.s
set_option maxRecDepth 100000 in
set_option maxHeartbeats 2000000 in
theorem remove_some (A : Ad) (k : Nat) (e : Eo) (f : Ef) (w : World) (h : Es w A k e) (hf : f ∈ e.L) :
    Calls Tryz.prog 71 #[.pointer (some ⟨A.o, 0, none⟩), .int .i64 f.id] w fun x w' => ∃ u, x = .returned (.tuple #[u, .int .i64 0]) ∧ Es w' A k (remE e f.id (goS e f)) ∧ Turns (fun i => (i = A.mb ∨ i = A.sp ∨ i = A.smb) ∨ que.Foot f.qb f.pv i) w w' ∧ Owns SE SeT w' u (nam f.id f.q.L) ∧ ∀ g, u.ownBlock = some g → w.heap.size ≤ g := by
  have c5 := h.blk.cell 5
  have hr := h.look hf
  obtain ⟨c, D, hc, hmp, hrd⟩ := h.map
  obtain ⟨c2, D2, hc2, hss⟩ := h.sch
  have hkey := drr.keyI (h.rg f hf).1 (h.rg f hf).2
  have HH := Lib.hid h
  have HF := Lib.hid hf
  have HMP := Lib.hid (And.intro hc (And.intro hmp hrd))
  have HSS := Lib.hid (And.intro hc2 hss)
  have HSM : Hid (f.q.L.length ≤ 1048576) := Lib.hid (by have := (h.qs f hf).small; omega)
  have HAP : Hid (∀ g ∈ e.L.filter (fun y => y.id != f.id), Apart g f) := Lib.hid (fun g hg => by
    obtain ⟨hg, hne⟩ := List.mem_filter.1 hg
    simp at hne
    rcases HH.out.ap.two hg HF.out with e3 | e3
    · exact absurd (by rw [e3]) hne
    · exact e3)
  clear h hf hmp hrd hss hc hc2
  go_enter Tryz.func71, Tryz.ntmps71
  go_upto_region 5 with (at_delete; refine wpList_delete_own _ rfl _ _ 95 3 rfl 102 drr.lawI Tryz.underlying95 drr.ptrE A.mb c D rfl HMP.out.2.1 _ _ rfl hkey ?_; intro wm hownm hturn; have HM := Lib.hid hownm; have HG := Lib.hid hturn.grown; clear hownm hturn)
  have t1 : Turns (· = A.mb) w wm := (Turns.of_grown HG.out).mono (fun k _ hk => by injection hk)
  have HT1 := Lib.hid t1
  have off : ∀ {r : Nat} {cs : Array Value} {T : TypeId}, Blk w r cs T → ¬ r = A.mb := fun hb e3 => ownsMap_ne HMP.out.2.1 hb e3.symm
  have hbm := t1.blk HH.out.blk (off HH.out.blk)
  have hfm := t1.blk (HH.out.fb f HF.out) (off (HH.out.fb f HF.out))
  have hqm := (HH.out.qs f HF.out).turns t1 (off (HH.out.qs f HF.out).blk) (fun g hg e3 => ownsMap_ne_row HMP.out.2.1 (HH.out.qs f HF.out).own g hg e3.symm)
  have hsm := HSS.out.2.turns t1 (off HSS.out.2.blk) (fun e3 => HH.out.mm e3.symm) (fun g hg => off (HSS.out.2.fb g hg))
  have HFM := Lib.hid hfm
  have HQM := Lib.hid hqm
  have HSM2 := Lib.hid hsm
  obtain ⟨⟨b0, b1, b2, b3, b4, b5, b6, b7, b8⟩, _⟩ := nine hbm
  obtain ⟨⟨f0, f1⟩, _⟩ := drr.two hfm
  clear hbm hfm hqm hsm c5 hr t1 off hkey
  cases hv : f.video with
  | false =>
    rw [hv] at f1
    have HGS : Hid (goS e f = e.s) := Lib.hid (if_neg (by rw [hv]; decide))
    have HES2 : Hid (Es wm A k (remE e f.id e.s)) := Lib.hid (HH.out.rem HF.out HMP.out.1 HMP.out.2.1 HMP.out.2.2 HM.out ⟨c2, D2, HSS.out.1, HSM2.out⟩ (sound_vs HH.out HF.out hv) rfl (HT1.out.mono (fun i _ hi => .inl hi)))
    have HT2 : Hid (Turns (fun i => (i = A.mb ∨ i = A.sp ∨ i = A.smb) ∨ que.Foot f.qb f.pv i) w wm) := Lib.hid (HT1.out.mono (fun i _ hi => .inl (.inl hi)))
    have HQ2 := HQM
    clear hv
    have HB := Lib.hid (que.break_ f.qb f.pv f.q wm HQ2.out)
    go_wp2_with fail
    refine HB.out.mono ?_
    rintro x w3 ⟨v, rfl, hg⟩
    have HG := Lib.hid hg
    clear hg HB
    have HNM := Lib.hid (named f.id v _ w3 HG.out.fr.own HSM.out)
    go_wp2_with fail
    refine HNM.out.mono ?_
    rintro x w4 ⟨u, rfl, hu⟩
    have HU := Lib.hid hu
    clear hu HNM
    go_wp2
    go_ret2
    have hes := (HES2.out.stray HQ2.out HAP.out HG.out.turns).later HU.out.n
    have t3 := HT2.out.trans (HG.out.turns.mono (S' := fun i => ((i = A.mb ∨ i = A.sp ∨ i = A.smb) ∨ que.Foot f.qb f.pv i) ∨ w.heap.size ≤ i) (fun i _ hi => .inl (.inr hi)))
    rw [HGS.out]
    exact ⟨u, rfl, hes, t3.trans (HU.out.n.mono (fun _ _ h => h.elim)), HU.out.own, fun g hg => Nat.le_trans t3.size (HU.out.vb g hg)⟩
  | true =>
    rw [hv] at f1
    have HGS : Hid (goS e f = drr.remS e.s f.id) := Lib.hid (if_pos hv)
    obtain ⟨f2, hf2, hid2⟩ := (HH.out.vs f.id).2 ⟨f, HF.out, rfl, hv⟩
    have HRM := Lib.hid (drr.remove_ok A.sp A.smb c2 D2 e.s f2 wm HSM2.out hf2)
    rw [hid2] at HRM
    clear hv hf2 hid2
    go_wp2_with fail
    refine HRM.out.mono ?_
    rintro x w2 ⟨rfl, hs2, ht2⟩
    have HTT : Hid (Turns (fun i => i = A.mb ∨ i = A.sp ∨ i = A.smb) w w2) := Lib.hid ((HT1.out.mono (fun i _ hi => .inl hi)).trans (ht2.mono (fun i _ hi => .inl (.inr hi))))
    have HES2 : Hid (Es w2 A k (remE e f.id (drr.remS e.s f.id))) := Lib.hid (HH.out.rem HF.out HMP.out.1 HMP.out.2.1 HMP.out.2.2 (ownsMap_turns HM.out ht2 (fun e3 => by
      rcases e3 with e3 | e3
      · exact ownsMap_ne HMP.out.2.1 HSS.out.2.blk e3
      · exact HH.out.mm e3)) ⟨c2, _, HSS.out.1, hs2⟩ (pic_vs _ _) rfl HTT.out)
    have off2 : ∀ {r : Nat} {cs : Array Value} {T : TypeId}, Blk wm r cs T → T ≠ 174 → ¬ (r = A.sp ∨ r = A.smb) := fun hb hT hk => by
      rcases hk with e3 | e3
      · exact blk_ne hb HSM2.out.blk hT e3
      · exact ownsMap_ne HSM2.out.map hb e3.symm
    have hfb2 := ht2.blk HFM.out (off2 HFM.out (by decide))
    have HQ2 := Lib.hid (HQM.out.turns ht2 (off2 HQM.out.blk (by decide)) (fun g hg e3 => by
      rcases e3 with e3 | e3
      · exact own_ne HQM.out.own HSM2.out.blk (by decide) (by rw [hg, e3])
      · exact ownsMap_ne_row HSM2.out.map HQM.out.own g hg e3.symm))
    have HT2 : Hid (Turns (fun i => (i = A.mb ∨ i = A.sp ∨ i = A.smb) ∨ que.Foot f.qb f.pv i) w w2) := Lib.hid (HTT.out.mono (fun i _ hi => .inl hi))
    clear hs2 ht2 off2 HRM b0 b1 b2 b3 b4 b5 b6 b7 b8 f0 f1
    obtain ⟨⟨f0, f1⟩, _⟩ := drr.two hfb2
    clear hfb2
    have HB := Lib.hid (que.break_ f.qb f.pv f.q w2 HQ2.out)
    go_wp2_with fail
    refine HB.out.mono ?_
    rintro x w3 ⟨v, rfl, hg⟩
    have HG := Lib.hid hg
    clear hg HB
    have HNM := Lib.hid (named f.id v _ w3 HG.out.fr.own HSM.out)
    go_wp2_with fail
    refine HNM.out.mono ?_
    rintro x w4 ⟨u, rfl, hu⟩
    have HU := Lib.hid hu
    clear hu HNM
    go_wp2
    go_ret2
    have hes := (HES2.out.stray HQ2.out HAP.out HG.out.turns).later HU.out.n
    have t3 := HT2.out.trans (HG.out.turns.mono (S' := fun i => ((i = A.mb ∨ i = A.sp ∨ i = A.smb) ∨ que.Foot f.qb f.pv i) ∨ w.heap.size ≤ i) (fun i _ hi => .inl (.inr hi)))
    rw [HGS.out]
    exact ⟨u, rfl, hes, t3.trans (HU.out.n.mono (fun _ _ h => h.elim)), HU.out.own, fun g hg => Nat.le_trans t3.size (HU.out.vb g hg)⟩
end Go.Proofs.YtcppibjllaablaaGreat.egr

/-
  egress.Out: Tick.
-/
namespace Go.Proofs.YtcppibjllaablaaGreat.egr
open Go.RowKit mem Go.Maps
open Go.Proofs.YtcppibjllaablaaGreat.itr
set_option linter.unusedVariables false

def expE (e : Eo) (f : Ef) (now : Int) (pv : Value) : Eo := ⟨e.frames, e.bytes, e.age, e.most, e.guard, e.credit, e.row, setQ e.L f.id pv (que.expQ f.q now e.age), e.s⟩
/-- a Tick, flow by flow -/
inductive TSteps (now : Int) : Eo → List Int → List Snt → Eo → Prop
  | nil (e : Eo) : TSteps now e [] [] e
  | snoc {e : Eo} {l : List Int} {o : List Snt} {e1 : Eo} {f : Ef} (pv : Value) : TSteps now e l o e1 → f ∈ e1.L → TSteps now e (l ++ [f.id]) (o ++ nam f.id (que.expD f.q now e1.age)) (expE e1 f now pv)
def TickOk (L : List Ef) : Prop := ∀ f ∈ L, ∀ x ∈ f.q.L, 0 ≤ x.tick ∧ x.tick ≤ 2199023255552
abbrev HeldT (A : Ad) (f : Ef) (c : Nat) (D : DataW Unit) (age : Int) (w' : World) : Prop :=
  w'.ownsMap Tryz.prog 3 drr.ptrE A.mb c D ∧ (Instr.lookup MT (.map (some A.mb)) (.int .i64 f.id) false).run Tryz.prog w' = .ok (.pointer (some ⟨f.fb, 0, none⟩)) w' ∧ A.o < w'.heap.size ∧ f.fb < w'.heap.size ∧ w'.cell? ⟨A.o, 5, none⟩ = some (.map (some A.mb)) ∧ w'.cell? ⟨A.o, 2, none⟩ = some (.int .i64 age) ∧ w'.cell? ⟨f.fb, 0, none⟩ = some (.pointer (some ⟨f.qb, 0, none⟩))
def KeyT (f : Ef) (D : DataW Unit) : Prop := (-9223372036854775808 ≤ f.id ∧ f.id ≤ 9223372036854775807) ∧ ∀ z, D.atKey (.int .i64 f.id) z = .lit (.int .i64 (f.fb : Int))
theorem look1_at {w : World} {mb c : Nat} {D : DataW Unit} {f : Ef} (hm : w.ownsMap Tryz.prog 3 drr.ptrE mb c D) (hk : KeyT f D) : (Instr.lookup MT (.map (some mb)) (.int .i64 f.id) false).run Tryz.prog w = .ok (.pointer (some ⟨f.fb, 0, none⟩)) w := by
  obtain ⟨v, ps, hrun, hv⟩ := hm.lookup drr.lawI Tryz.underlying95 (zeroP w) (zd := .lit (.int .i64 (-1))) (zp := []) rfl (drr.keyI hk.1.1 hk.1.2)
  rw [hk.2] at hv
  rw [drr.ptrE_inv hv] at hrun
  exact hrun
theorem heldT_turns {A : Ad} {f : Ef} {c : Nat} {D : DataW Unit} {age : Int} {w1 w2 : World} {T : Nat → Prop} (k : Turns T w1 w2) (hT : ¬ T A.mb ∧ ¬ T A.o ∧ ¬ T f.fb) (hk : KeyT f D) (h : HeldT A f c D age w1) : HeldT A f c D age w2 := by
  obtain ⟨h1, h2, h3, h4, h5, h6, h7⟩ := h
  have hm := ownsMap_turns h1 k hT.1
  exact ⟨hm, look1_at hm hk, Nat.lt_of_lt_of_le h3 k.size, Nat.lt_of_lt_of_le h4 k.size, (k.cell (a := ⟨A.o, 5, none⟩) h3 hT.2.1).trans h5, (k.cell (a := ⟨A.o, 2, none⟩) h3 hT.2.1).trans h6, (k.cell (a := ⟨f.fb, 0, none⟩) h4 hT.2.2).trans h7⟩
theorem heldT_drew {A : Ad} {f : Ef} {c : Nat} {D : DataW Unit} {age : Int} {w1 : World} (hk : KeyT f D) (h : HeldT A f c D age w1) : HeldT A f c D age w1.drew := heldT_turns (T := fun _ => False) ((Turns.refl _ _).drew) ⟨fun h => h, fun h => h, fun h => h⟩ hk h
theorem gone_pre {w W w2 : World} {p : Nat} {pv v : Value} {q : que.Q} {L : List que.It} (n : New w W) (h : que.Gone W w2 p pv q v L) : que.Gone w w2 p pv q v L :=
  ⟨⟨h.fr.own, fun g hg => Nat.le_trans n.size (h.fr.vb g hg)⟩, h.qs, (n.mono (fun _ _ h => h.elim)).trans (h.turns.mono (fun _ _ h => .inl h))⟩
/-- in the loop -/
structure Tx (b : Nat) (now : Int) (w wr : World) (A : Ad) (k : Nat) (e : Eo) (u v : Value) (j : Nat) (o : List Snt) (e1 : Eo) : Prop where
  st : TSteps now e ((idS e.L).take j) o e1
  es : Es wr A k e1
  lo : Lo b A e1
  sf : Sf b A w wr
  ids : idS e1.L = idS e.L
  ui : Owns IntE 3 wr u (idS e.L)
  ow : Owns SE SeT wr v o
  vb : ∀ g, v.ownBlock = some g → w.heap.size ≤ g
  tot : o.length + Tot e1.L = Tot e.L
  tk : TickOk e1.L
theorem Tx.go {b : Nat} {now : Int} {w wr w2 w3 w8 W : World} {A : Ad} {k : Nat} {e : Eo} {u v v2 v8 : Value} {j : Nat} {o : List Snt} {e1 : Eo} (h : Tx b now w wr A k e u v j o e1) (hb : b ≤ w.heap.size) {f : Ef} (hf : f ∈ e1.L) (hid : (idS e.L)[j]? = some f.id)
    (hg : que.Gone wr w2 f.qb f.pv (que.expQ f.q now e1.age) v2 (que.expD f.q now e1.age)) (hn : New w2 w3) (hW : New w3 W) (hwz : W.heap.size = w3.heap.size) (ho : Owns SE SeT w8 v8 (o ++ nam f.id (que.expD f.q now e1.age))) (hgr : W.grownBy w8 v.ownBlock) (ha : v8.ownBlock = v.ownBlock ∨ v8.ownBlock = some W.heap.size) :
    ∃ e2, Tx b now w w8 A k e u v8 (j + 1) (o ++ nam f.id (que.expD f.q now e1.age)) e2 := by
  obtain ⟨pv', hloc, hes2⟩ := h.es.queue hf (gone_lft hg) rfl rfl (fun z hz => (h.es.fq f hf).sz z (List.mem_of_mem_drop hz))
  have sfW : Sf b A wr W := ((Sf.que h.es h.lo hf hg.turns).trans (Sf.new hn)).trans (Sf.new hW)
  have hesW := (hes2.later hn).later hW
  have hov := sfW.row h.ow (by decide) (by decide) (by decide) (by decide) (by decide)
  have hoi := sfW.row h.ui (by decide) (by decide) (by decide) (by decide) (by decide)
  have t8 : Turns (fun i => some i = v.ownBlock) W w8 := Turns.of_grown hgr
  have hsw := h.sf.trans sfW
  have hbr : b ≤ wr.heap.size := Nat.le_trans hb h.sf.t.size
  have htot : Tot (setQ e1.L f.id pv' (que.expQ f.q now e1.age)) + (que.expD f.q now e1.age).length = Tot e1.L := by
    have h1 := tot_set h.es.ap hf pv' (que.expQ f.q now e1.age)
    have h2 : (que.expQ f.q now e1.age).L.length + (que.expD f.q now e1.age).length = f.q.L.length := by
      show (f.q.L.drop _).length + (f.q.L.take _).length = _
      rw [List.length_drop, List.length_take]; omega
    omega
  refine ⟨expE e1 f now pv', by rw [drr.take_succ' hid]; exact TSteps.snoc pv' h.st hf, hesW.row hov (by decide) (by decide) (by decide) (by decide) (by decide) (by decide) t8, h.lo.setQ hf hbr hloc, hsw.grow hb (t8.mono (fun i _ hi => h.vb i hi.symm)), ?_, hoi.turns t8 (fun g hg e2 => own_own hov hoi (by decide) g hg e2), ho, fun g hg2 => ?_, ?_, fun g hg x hx => ?_⟩
  · show idS (setQ _ _ _ _) = _
    rw [setQ_idS]; exact h.ids
  · rcases ha with e2 | e2
    · exact h.vb g (by rw [← e2]; exact hg2)
    · rw [e2] at hg2
      injection hg2 with hg2
      have := hsw.t.size
      omega
  · have := h.tot
    rw [List.length_append]
    unfold nam
    rw [List.length_map]
    show o.length + _ + Tot (setQ _ _ _ _) = _
    omega
  · obtain ⟨g', hg', rfl⟩ := setQ_mem hg
    split at hx
    · exact h.tk f hf x (List.mem_of_mem_drop hx)
    · exact h.tk g' hg' x hx
set_option maxRecDepth 100000 in
set_option maxHeartbeats 4000000 in
theorem tick (b : Nat) (A : Ad) (k : Nat) (e : Eo) (now : Int) (w : World) (h : Es w A k e) (lo : Lo b A e) (hb : b ≤ w.heap.size) (hk : k ≤ 1048576) (hL : e.L.length ≤ 1048576) (hT : Tot e.L ≤ 1048575) (ht : TickOk e.L) (n0 : 0 ≤ now) (n1 : now ≤ 2199023255552) :
    Calls Tryz.prog 25 #[.pointer (some ⟨A.o, 0, none⟩), .int .i64 now] w fun x w' => ∃ v o e', x = .returned v ∧ TSteps now e (idS e.L) o e' ∧ Es w' A k e' ∧ Lo b A e' ∧ Sf b A w w' ∧ Owns SE SeT w' v o ∧ (∀ g, v.ownBlock = some g → w.heap.size ≤ g) ∧ TickOk e'.L := by
  have HI := Lib.hid (ids A k e w h hk)
  have HH := Lib.hid (And.intro h lo)
  have HRR : Hid ((idS e.L).length ≤ 1048576 ∧ b ≤ w.heap.size ∧ 0 ≤ now ∧ now ≤ 2199023255552 ∧ TickOk e.L) := Lib.hid ⟨by rw [(idS_perm e.L).length_eq, List.length_map]; exact hL, hb, n0, n1, ht⟩
  clear h lo hk hL hb n0 n1 ht
  go_enter Tryz.func25, Tryz.ntmps25
  go_wp2_with fail
  refine HI.out.mono ?_
  rintro x w1 ⟨u, rfl, hu⟩
  obtain ⟨ao, c, hv, hlc, _, _⟩ := hu.own.form
  subst hv
  have HX0 : Hid (Tx b now w w1 A k e (.slice ao (idS e.L).length c) (.slice none 0 0) 0 [] e) := Lib.hid ⟨TSteps.nil e, HH.out.1.later hu.n, HH.out.2, Sf.new hu.n, rfl, hu.own, Owns.nil _ _, (fun g hg => by simp [Value.ownBlock] at hg), by simp, HRR.out.2.2.2.2⟩
  have hlm : (idS e.L).length ≤ maxLen := by have := HRR.out.1; unfold maxLen; omega
  have hl2 : (idS e.L).length ≤ 1048576 := HRR.out.1
  clear hu HI
  generalize hl : idS e.L = l at *
  have HLL := Lib.hid hl
  clear hl
  go_wp2_with fail
  go_loopw [5, 11] (fun v i wr => ∃ (j : Nat) (o : List Snt) (e1 : Eo), j ≤ l.length ∧ i = .int .i64 j ∧ Tx b now w wr A k e (.slice ao l.length c) v j o e1) (fun _ i _ => l.length - (intOf i).toNat)
  case atStart => exact ⟨0, [], e, Nat.zero_le _, rfl, HX0.out⟩
  case round =>
    obtain ⟨j, o, e1, hj, rfl, htx⟩ := hrel
    have HX := Lib.hid htx
    clear htx HX0
    by_cases hlt : j < l.length
    · have HLT := Lib.hid hlt
      obtain ⟨id, hid⟩ : ∃ x, l[j]? = some x := ⟨_, List.getElem?_eq_getElem hlt⟩
      have hui := HX.out.ui
      rw [HLL.out] at hui
      obtain ⟨a2, c2, e2, _, hrd, _⟩ := hui.form
      obtain ⟨g, hg, hgl, hc⟩ := hrd.resolve_left (fun e => by rw [e] at hlt; exact absurd hlt (Nat.not_lt_zero _))
      subst hg
      obtain ⟨rfl, _, rfl⟩ : ao = some ⟨g, 0, none⟩ ∧ l.length = l.length ∧ c = c2 := by injection e2 with p1 p2 p3; exact ⟨p1, p2, p3⟩
      have d0 : wr.cell? ⟨g, j * 1 + 0, none⟩ = _ := hc j id hid 0 _ rfl
      rw [Nat.mul_one, Nat.add_zero] at d0
      obtain ⟨f, hf, rfl⟩ : ∃ f ∈ e1.L, f.id = id := (idS_mem _ _).1 (by rw [HX.out.ids, HLL.out]; exact List.mem_of_getElem? hid)
      have HF := Lib.hid (And.intro hf hid)
      obtain ⟨ao3, c3, hv3, _, _, _⟩ := HX.out.ow.form
      subst hv3
      clear hrd hc hui e2 hid hf
      have hes := HX.out.es
      have c5 := hes.blk.cell 5
      have c2' := hes.blk.cell 2
      have hr0 := hes.look1 HF.out.1
      have hr1 := (hes.later ((Turns.refl _ wr).drew)).look1 HF.out.1
      obtain ⟨⟨f0, f1⟩, _⟩ := drr.two (hes.fb f HF.out.1)
      have htk := HX.out.tk f HF.out.1
      have hrr := HRR.out
      have HEX := Lib.hid (fun W (n : New wr W) => (que.expire f.qb f.pv f.q now e1.age W ((hes.qs f HF.out.1).later n) hrr.2.2.1 hrr.2.2.2.1 htk).mono (R' := fun x w2 => ∃ v, x = .returned v ∧ que.Gone wr w2 f.qb f.pv (que.expQ f.q now e1.age) v (que.expD f.q now e1.age)) (fun x w2 ⟨v, h1, h2⟩ => ⟨v, h1, gone_pre n h2⟩))
      obtain ⟨cm, Dm, _, hmp, hrd2⟩ := hes.map
      have HKT : Hid (KeyT f Dm) := Lib.hid ⟨hes.rg f HF.out.1, hrd2.at_ f HF.out.1⟩
      have hheld : HeldT A f cm Dm e1.age wr := ⟨hmp, hr0, hes.blk.lt, (hes.fb f HF.out.1).lt, c5, c2', f0⟩
      have HOF1 : Hid (¬ que.Foot f.qb f.pv A.mb ∧ ¬ que.Foot f.qb f.pv A.o ∧ ¬ que.Foot f.qb f.pv f.fb) := Lib.hid ⟨fun hk => by
        rcases hk with e2 | e2
        · exact ownsMap_ne hmp (hes.qs f HF.out.1).blk e2
        · exact ownsMap_ne_row hmp (hes.qs f HF.out.1).own _ e2 rfl, fun hk => by
        rcases hk with e2 | e2
        · exact blk_ne hes.blk (hes.qs f HF.out.1).blk (by decide) e2
        · exact own_ne (hes.qs f HF.out.1).own hes.blk (by decide) e2, fun hk => by
        rcases hk with e2 | e2
        · exact blk_ne (hes.fb f HF.out.1) (hes.qs f HF.out.1).blk (by decide) e2
        · exact own_ne (hes.qs f HF.out.1).own (hes.fb f HF.out.1) (by decide) e2⟩
      have HOF2 : Hid (∀ v', v' = Value.slice ao3 o.length c3 → ¬ (some A.mb = v'.ownBlock) ∧ ¬ (some A.o = v'.ownBlock) ∧ ¬ (some f.fb = v'.ownBlock)) := Lib.hid (fun v' hv' => by
        subst hv'
        exact ⟨fun e2 => ownsMap_ne_row hmp HX.out.ow _ e2.symm rfl, fun e2 => own_ne HX.out.ow hes.blk (by decide) e2.symm, fun e2 => own_ne HX.out.ow (hes.fb f HF.out.1) (by decide) e2.symm⟩)
      have HRW : Hid (∀ w2 w3 v2, que.Gone wr w2 f.qb f.pv (que.expQ f.q now e1.age) v2 (que.expD f.q now e1.age) → New w2 w3 → Owns SE SeT w3 (.slice ao3 o.length c3) o) := Lib.hid (fun w2 w3 v2 hg hn => ((Sf.que HX.out.es HX.out.lo HF.out.1 hg.turns).trans (Sf.new hn)).row HX.out.ow (by decide) (by decide) (by decide) (by decide) (by decide))
      clear hmp hrd2
      have hfl : f.q.L.length ≤ Tot e1.L := by
        have h1 := tot_set hes.ap HF.out.1 f.pv ⟨f.q.frames, f.q.most, [], f.q.broken⟩
        simp only [List.length_nil] at h1
        omega
      have hel : (que.expD f.q now e1.age).length ≤ f.q.L.length := by unfold que.expD; rw [List.length_take]; omega
      have htt := HX.out.tot
      have HSM : Hid ((que.expD f.q now e1.age).length ≤ 1048576 ∧ o.length + (nam f.id (que.expD f.q now e1.age)).length ≤ 1048576) := Lib.hid ⟨by omega, by unfold nam; rw [List.length_map]; omega⟩
      clear hes htk hrr hfl hel htt
      go_upto_region 5 with fail
      clear hr0 hr1 c5 c2' f0 f1
      go_region_held3 (fun w' => w'.ownsMap Tryz.prog 3 drr.ptrE A.mb cm Dm ∧ (Instr.lookup MT (.map (some A.mb)) (.int .i64 f.id) false).run Tryz.prog w' = .ok (.pointer (some ⟨f.fb, 0, none⟩)) w' ∧ A.o < w'.heap.size ∧ f.fb < w'.heap.size ∧ w'.cell? ⟨A.o, 5, none⟩ = some (.map (some A.mb)) ∧ w'.cell? ⟨A.o, 2, none⟩ = some (.int .i64 e1.age) ∧ w'.cell? ⟨f.fb, 0, none⟩ = some (.pointer (some ⟨f.qb, 0, none⟩)))
        (first
          | (with_reducible assumption)
          | ((with_reducible refine heldT_drew HKT.out ?_); with_reducible assumption)
          | ((with_reducible apply heldT_turns hg2.turns HOF1.out HKT.out); with_reducible assumption)
          | ((with_reducible apply heldT_turns hn3 ⟨fun h => h, fun h => h, fun h => h⟩ HKT.out); with_reducible assumption)
          | ((refine heldT_turns (Turns.of_grown hgrow) (HOF2.out _ rfl) HKT.out ?_); (first | (with_reducible assumption) | ((with_reducible refine heldT_drew HKT.out ?_); with_reducible assumption))))
        (first
          | (go_at_call 68; (with_reducible refine Calls.mono (HEX.out _ ?_) ?_); (focus (first | exact Turns.refl _ _ | exact (Turns.refl _ _).drew | exact (Turns.refl _ _).drew.drew)); rintro x w2 ⟨v2, rfl, hg2⟩)
          | (go_at_call 40; (with_reducible refine Calls.mono (named f.id _ _ _ (by first | exact hg2.fr.own | exact hg2.fr.own.turns (S := fun _ => False) ((Turns.refl _ _).drew) (fun _ _ h => h)) HSM.out.1) ?_); rintro x w3 ⟨y3, rfl, hu3⟩; have hn3 : New w2 w3 := (by first | exact hu3.n | exact Turns.of_drew hu3.n))
          | (refine step_append_owns (E := SE) Tryz.underlying55 infoSe rfl (by decide) (by decide) (by rfl) _ _ (by rfl) (.slice ao3 o.length c3) y3 o (nam f.id (que.expD f.q now e1.age)) (by rfl) (by rfl) (by first | exact HRW.out _ _ _ hg2 hn3 | exact (HRW.out _ _ _ hg2 hn3).turns (S := fun _ => False) ((Turns.refl _ _).drew) (fun _ _ h => h)) (by first | exact hu3.own | exact hu3.own.turns (S := fun _ => False) ((Turns.refl _ _).drew) (fun _ _ h => h)) HSM.out.2 ?_; intro v8 w8 hown hgrow hat))
      obtain ⟨e2, htx2⟩ : ∃ e2, Tx b now w w8 A k e (.slice (some ⟨g, 0, none⟩) l.length c) v8 (j + 1) (o ++ nam f.id (que.expD f.q now e1.age)) e2 := by
        first
          | exact HX.out.go HRR.out.2.1 HF.out.1 (by rw [HLL.out]; exact HF.out.2) hg2 hn3 (Turns.refl _ _) rfl hown hgrow hat
          | exact HX.out.go HRR.out.2.1 HF.out.1 (by rw [HLL.out]; exact HF.out.2) hg2 hn3 ((Turns.refl _ _).drew) rfl hown hgrow hat
          | exact HX.out.go HRR.out.2.1 HF.out.1 (by rw [HLL.out]; exact HF.out.2) hg2 hn3 ((Turns.refl _ _).drew.drew) rfl hown hgrow hat
      have HX2 := Lib.hid htx2
      clear htx2 hown hgrow hat hu3 hn3 hg2 hheld HX HEX HOF1 HOF2 HRW
      go_wp2
      go_roundw
      case rel =>
        have hlt2 := HLT.out
        exact ⟨j + 1, _, _, hlt2, by go_num, HX2.out⟩
      case measure =>
        have hlt2 := HLT.out
        simp [intOf]; omega
    · obtain rfl : j = l.length := by omega
      go_wp2
      go_ret
      have hx := HX.out
      have hst := hx.st
      rw [HLL.out, List.take_length] at hst
      exact ⟨_, o, e1, rfl, (by rw [HLL.out]; exact hst), hx.es, hx.lo, hx.sf, hx.ow, hx.vb, hx.tk⟩
end Go.Proofs.YtcppibjllaablaaGreat.egr

/-
  An outlet made since b: what each call leaves of it.
-/
namespace Go.Proofs.YtcppibjllaablaaGreat.egr
open Go.RowKit mem Go.Maps
set_option linter.unusedVariables false
section
variable {b : Nat} {w wr w2 : World} {A : Ad} {k : Nat} {e e' : Eo}
theorem Ru.whole (h : Ru b w wr A k e) (hes : Es w2 A k e') (hlo : Lo b A e') (hsf : Sf b A wr w2) : Ru b w w2 A k e' := ⟨hes, hlo, h.sf.trans hsf⟩
theorem Lo.rem (h : Lo b A e) (f : Ef) : Lo b A (remE e f.id (goS e f)) := by
  refine ⟨h.o, h.m, h.s, h.t, fun g hg => h.q g (List.mem_filter.1 hg).1, fun g hg => ?_⟩
  have hg2 : g ∈ (goS e f).L := hg
  unfold goS at hg2
  split at hg2
  · exact h.g g (List.mem_filter.1 hg2).1
  · exact h.g g hg2
theorem Ru.remove (h : Ru b w wr A k e) {f : Ef} (hf : f ∈ e.L) (hes : Es w2 A k (remE e f.id (goS e f))) (t : Turns (fun i => (i = A.mb ∨ i = A.sp ∨ i = A.smb) ∨ que.Foot f.qb f.pv i) wr w2) : Ru b w w2 A k (remE e f.id (goS e f)) := by
  obtain ⟨c, D, _, hm, _⟩ := h.es.map
  obtain ⟨c2, D2, _, hss⟩ := h.es.sch
  refine ⟨hes, h.lo.rem f, h.sf.trans (Sf.of (t.mono (fun i _ hi => ?_)) t (fun r cs T hb a1 a2 a3 a4 a5 hi => ?_))⟩
  · rcases hi with (hi | hi | hi) | hi | hi
    · rw [hi]; exact h.lo.m
    · rw [hi]; exact h.lo.s
    · rw [hi]; exact h.lo.t
    · rw [hi]; exact (h.lo.q f hf).1
    · exact (h.lo.q f hf).2 i hi
  · rcases hi with (hi | hi | hi) | hi | hi
    · exact ownsMap_ne hm hb hi.symm
    · exact blk_ne hb hss.blk a4 hi
    · exact ownsMap_ne hss.map hb hi.symm
    · exact blk_ne hb (h.es.qs f hf).blk a2 hi
    · exact own_ne (h.es.qs f hf).own hb (fun e3 => a3 e3.symm) hi
end
end Go.Proofs.YtcppibjllaablaaGreat.egr

/-
  AntiphonShares: what each call does to the two flows.
-/
namespace Go.Proofs.YtcppibjllaablaaGreat.egr
open Go.RowKit mem Go.Maps
open Go.Proofs.YtcppibjllaablaaGreat.itr
set_option linter.unusedVariables false

abbrev A3 : TypeId := 64
/-- a block of yet another type turns -/
theorem Es.foreign {w w' : World} {A : Ad} {k q : Nat} {e : Eo} {cs : Array Value} {T : TypeId} (h : Es w A k e) (hb : Blk w q cs T) (a1 : T ≠ OB) (a2 : T ≠ 170) (a3 : T ≠ 67) (a4 : T ≠ 174) (a5 : T ≠ 178) (a6 : T ≠ GB) (t : Turns (· = q) w w') : Es w' A k e := by
  obtain ⟨c, D, hc, hmp, hr⟩ := h.map
  obtain ⟨c2, D2, hc2, hss⟩ := h.sch
  have off : ∀ {r : Nat} {ds : Array Value} {U : TypeId}, Blk w r ds U → T ≠ U → ¬ r = q := fun hr hT e2 => blk_ne hb hr hT e2.symm
  refine ⟨t.blk h.blk (off h.blk a1), ⟨c, D, hc, ownsMap_turns hmp t (ownsMap_ne hmp hb), hr⟩, fun f hf => t.blk (h.fb f hf) (off (h.fb f hf) a6), fun f hf => (h.qs f hf).turns t (off (h.qs f hf).blk a2) (fun g hg e2 => own_ne (h.qs f hf).own hb (fun e3 => a3 e3.symm) (by rw [hg, e2])), ⟨c2, D2, hc2, hss.turns t (off hss.blk a4) (ownsMap_ne hss.map hb) (fun f hf => off (hss.fb f hf) a5)⟩, h.ap, h.mm, h.rg, h.cf, h.fq, h.sm, h.vs⟩

/-- how many wait of 1 and 2 -/
def incC (c : Int → Nat) (id : Int) : Int → Nat := fun i => if i = id then c i + 1 else c i
structure SL (w0 wr : World) (A : Ad) (e : Eo) (sb : Nat) (z p q : Int) (c : Int → Nat) (u1 u2 v1 v2 : Int) : Prop where
  ru : Ru w0.heap.size w0 wr A 2 e
  sh : Sh z p q e (c 1) (c 2) u1 u2
  sent : Blk wr sb #[.int .i64 0, .int .i64 v1, .int .i64 v2] A3
  hs : w0.heap.size ≤ sb
section
variable {w0 wr w2 : World} {A : Ad} {e : Eo} {sb : Nat} {z p q u1 u2 v1 v2 : Int} {c : Int → Nat}
theorem SL.later (h : SL w0 wr A e sb z p q c u1 u2 v1 v2) (n : New wr w2) : SL w0 w2 A e sb z p q c u1 u2 v1 v2 := ⟨h.ru.later n, h.sh, n.blk h.sent (fun h => h), h.hs⟩
theorem SL.flow (h : SL w0 wr A e sb z p q c u1 u2 v1 v2) {id : Int} (hid : id = 1 ∨ id = 2) : ∃ f ∈ e.L, f.id = id ∧ f.q.L.length = c id ∧ f.video = true := by
  obtain ⟨fb1, qb1, pv1, L1, br1, fb2, qb2, pv2, L2, br2, hL, h1, h2⟩ := h.sh.L
  rw [hL]
  rcases hid with rfl | rfl
  · exact ⟨_, List.mem_cons_self, rfl, h1.1, rfl⟩
  · exact ⟨_, List.mem_cons_of_mem _ List.mem_cons_self, rfl, h2.1, rfl⟩
theorem SL.waits (h : SL w0 wr A e sb z p q c u1 u2 v1 v2) {id : Int} (hid : id = 1 ∨ id = 2) :
    Calls Tryz.prog 12 #[.pointer (some ⟨A.o, 0, none⟩), .int .i64 id] wr fun x w' => ∃ s, x = .returned (.tuple #[.int .i64 (c id), .int .i64 s]) ∧ New wr w' := by
  obtain ⟨f, hf, rfl, hl, _⟩ := h.flow hid
  refine (waits_some A 2 e f wr h.ru.es hf).mono ?_
  rintro x w' ⟨rfl, n⟩
  exact ⟨_, by rw [hl], n⟩
theorem incC_same (c : Int → Nat) (id : Int) : incC c id id = c id + 1 := if_pos rfl
theorem incC_other {c : Int → Nat} {id i : Int} (h : i ≠ id) : incC c id i = c i := if_neg h
theorem SL.put (h : SL w0 wr A e sb z p q c u1 u2 v1 v2) {id : Int} (hid : id = 1 ∨ id = 2) (hc : c id < 5) (z1 : 1 ≤ z) (z2 : z ≤ 40) (n : Int) :
    Calls Tryz.prog 15 #[.pointer (some ⟨A.o, 0, none⟩), .int .i64 id, .agg #[.int .i64 n, .int .i64 z, .int .i64 0, .bool true]] wr fun x w' => ∃ ao m co e', x = .returned (.tuple #[.slice ao m co, .bool true]) ∧ SL w0 w' A e' sb z p q (incC c id) u1 u2 v1 v2 ∧ e'.credit = e.credit ∧ e'.row = e.row ∧ Sf w0.heap.size A wr w' := by
  obtain ⟨f, hf, rfl, hl, hv⟩ := h.flow hid
  have hmo := h.sh.mo
  have hky : keyed f ⟨n, z, 0, true⟩ = ⟨n, z, 0, true⟩ := rfl
  refine (put_some A 2 e f ⟨n, z, 0, true⟩ wr h.ru.es hf (by rw [hmo]; exact z2) (by show -9223372036854775808 ≤ z; omega)).mono ?_
  rw [hky]
  rintro x w' ⟨u, pv', rfl, hes, t, ho, hvb, hloc⟩
  obtain ⟨ao, co, hu, _⟩ := ho.form
  obtain ⟨k1, k2⟩ := h.sh.put1 hf z1 z2 ⟨n, z, 0, true⟩ rfl rfl pv'
  have hsh : que.putOk f.q ⟨n, z, 0, true⟩ = true ∧ Sh z p q ⟨e.frames, e.bytes, e.age, e.most, e.guard, e.credit, e.row, setQ e.L f.id pv' (que.putQ f.q ⟨n, z, 0, true⟩), e.s⟩ (incC c f.id 1) (incC c f.id 2) u1 u2 := by
    rcases hid with e1 | e1
    · obtain ⟨j1, j2⟩ := k1 e1 (by rw [← e1]; exact hc)
      rw [e1] at j2 ⊢
      rw [incC_same, incC_other (by decide)]
      exact ⟨j1, j2⟩
    · obtain ⟨j1, j2⟩ := k2 e1 (by rw [← e1]; exact hc)
      rw [e1] at j2 ⊢
      rw [incC_same, incC_other (by decide)]
      exact ⟨j1, j2⟩
  rw [hsh.1, hu]
  have hru := h.ru.put hf hes t hloc
  exact ⟨_, _, _, _, rfl, ⟨hru, hsh.2, (Sf.que h.ru.es h.ru.lo hf t).blk h.sent (by decide) (by decide) (by decide) (by decide) (by decide), h.hs⟩, rfl, rfl, Sf.que h.ru.es h.ru.lo hf t⟩
theorem SL.grant (h : SL w0 wr A e sb z p q c u1 u2 v1 v2) (n : Int) (n0 : 0 ≤ n) (n1 : n ≤ 1000) (hc : e.credit ≤ 1000) :
    Calls Tryz.prog 10 #[.pointer (some ⟨A.o, 0, none⟩), .int .i64 n] wr fun x w' => ∃ e', x = .returned (.tuple #[]) ∧ SL w0 w' A e' sb z p q c u1 u2 v1 v2 ∧ e'.credit = e.credit + n ∧ e'.row = e.row := by
  refine (egr.grant A 2 e n wr h.ru.es (by omega) (by omega)).mono ?_
  rintro x w' ⟨rfl, hes, t⟩
  refine ⟨_, rfl, ⟨h.ru.grant hes t, ⟨h.sh.mo, h.sh.L, h.sh.d⟩, (Sf.out h.ru.es h.ru.lo t).blk h.sent (by decide) (by decide) (by decide) (by decide) (by decide), h.hs⟩, ?_, rfl⟩
  show grantI e.credit n = _
  unfold grantI
  omega
/-- what a Run leaves: l went out -/
structure Rn (w0 w' : World) (A : Ad) (e e' : Eo) (sb : Nat) (z p q : Int) (u1 u2 : Int) (c : Int → Nat) (l : List Snt) (v : Value) : Prop where
  sl : SL w0 w' A e' sb z p q c (u1 + z * cnt 1 l) (u2 + z * cnt 2 l) u1 u2
  c1 : c 1 + cnt 1 l = 5
  c2 : c 2 + cnt 2 l = 5
  len : l.length ≤ 3
  id : ∀ x ∈ l, x.id = 1 ∨ x.id = 2
  cr0 : 0 ≤ e'.credit
  cr : e'.credit < z
  r0 : 0 ≤ e'.row
  r1 : e'.row ≤ e.row + 10
  own : Owns SE SeT w' v l
  vb : ∀ g, v.ownBlock = some g → w0.heap.size ≤ g
theorem SL.run (h : SL w0 wr A e sb z p q c u1 u2 u1 u2) (h1 : c 1 = 5) (h2 : c 2 = 5) (hp : 40 ≤ p) (hq : 40 ≤ q) (z1 : 1 ≤ z) (z2 : z ≤ 40) (c0 : 0 ≤ e.credit) (hc : e.credit < 4 * z) (r0 : 0 ≤ e.row) (r1 : e.row ≤ 1000) :
    Calls Tryz.prog 11 #[.pointer (some ⟨A.o, 0, none⟩)] wr fun x w' => ∃ v l e' c', x = .returned v ∧ Rn w0 w' A e e' sb z p q u1 u2 c' l v := by
  have hsh := h.sh
  rw [h1, h2] at hsh
  have htot : e.L.length = 2 ∧ Tot e.L = 10 := by
    obtain ⟨fb1, qb1, pv1, L1, br1, fb2, qb2, pv2, L2, br2, hL, k1, k2⟩ := hsh.L
    rw [hL]
    refine ⟨rfl, ?_⟩
    show L1.length + (L2.length + 0) = 10
    rw [k1.1, k2.1]
  refine (egr.run w0.heap.size A 2 e wr h.ru.es h.ru.lo h.ru.sf.t.size (by decide) (by rw [htot.1]; decide) (by rw [htot.2]; decide) r0 (by omega)).mono ?_
  rintro x w' ⟨v, l, e', rfl, hran, hes, hlo, hsf, ho, hvb, hr1, hr0⟩
  obtain ⟨hst, hlow, hfew⟩ := Sh.ran hran hsh hp hq z1 z2 c0 hc
  obtain ⟨a, b, ha, hb, hs2⟩ := hst.sh
  refine ⟨v, l, e', fun i => if i = 1 then a else b, rfl, ⟨⟨⟨hes, hlo, h.ru.sf.trans hsf⟩, hs2, hsf.blk h.sent (by decide) (by decide) (by decide) (by decide) (by decide), h.hs⟩, ha, hb, hfew, hst.id, hst.c0, hlow, hr0, by rw [htot.2] at hr1; exact hr1, ho, fun g hg => Nat.le_trans h.ru.sf.t.size (hvb g hg)⟩⟩
/-- a write to what was sent -/
theorem SL.store (h : SL w0 wr A e sb z p q c u1 u2 v1 v2) {y1 y2 : Int} (t : Turns (· = sb) wr w2) (hb : Blk w2 sb #[.int .i64 0, .int .i64 y1, .int .i64 y2] A3) : SL w0 w2 A e sb z p q c u1 u2 y1 y2 :=
  ⟨⟨h.ru.es.foreign h.sent (by decide) (by decide) (by decide) (by decide) (by decide) (by decide) t, h.ru.lo, h.ru.sf.grow (Nat.le_refl _) (t.mono (fun i _ hi => by rw [hi]; exact h.hs))⟩, h.sh, hb, h.hs⟩
end
theorem Sf.below1 {w w0 w' : World} {A : Ad} (n : New w w0) (h : Sf w0.heap.size A w0 w') : Below w.heap.size w w' := by
  have hz := n.size
  have t : New w w' := n.trans (h.t.mono (fun i _ hi => .inr (by omega)))
  exact t.below (Nat.le_refl _) (fun _ _ h => h.elim)
theorem cnt_take {i : Int} {l : List Snt} {j : Nat} {x : Snt} (h : l[j]? = some x) : cnt i (l.take (j + 1)) = cnt i (l.take j) + (if x.id = i then 1 else 0) := by
  rw [List.take_add_one, h]
  exact cnt_snoc i _ x
theorem cnt_more {i : Int} {l : List Snt} {j : Nat} {x : Snt} (h : l[j]? = some x) (hx : x.id = i) : cnt i (l.take j) < cnt i l := by
  have h1 := cnt_take (i := i) h
  rw [if_pos hx] at h1
  have h2 : cnt i (l.take (j + 1)) ≤ cnt i l := by
    unfold cnt
    exact (List.take_sublist _ _).countP_le
  omega
end Go.Proofs.YtcppibjllaablaaGreat.egr

/-
  What is read at a place of an owned row. No program.
-/
namespace Go.Proofs.YtcppibjllaablaaGreat.mem
open Go.RowKit
set_option linter.unusedVariables false

theorem own_at {α : Type} {E : Enc α} {T : TypeId} {w : World} {ao : Option Addr} {n c : Nat} {l : List α} (h : Owns E T w (.slice ao n c) l) {k : Nat} {x : α} (hx : l[k]? = some x) : ∃ g, ao = some ⟨g, 0, none⟩ ∧ g < w.heap.size ∧ ∀ (j : Nat) (u : Value), (E.cs x)[j]? = some u → w.cell? ⟨g, k * E.n + j, none⟩ = some u := by
  obtain ⟨ao', c', hv, _, hr, _⟩ := h.form
  injection hv with e1 _ _
  subst e1
  rcases hr with e | ⟨g, e, hg, hcell⟩
  · rw [e] at hx; simp at hx
  · exact ⟨g, e, hg, fun j u hu => hcell k x hx j u hu⟩
end Go.Proofs.YtcppibjllaablaaGreat.mem

/-
  AntiphonShares: the law.
-/
namespace Go.Proofs.YtcppibjllaablaaGreat.egr
open Go.RowKit mem Go.Maps
open Go.Proofs.YtcppibjllaablaaGreat.itr
set_option linter.unusedVariables false

/-- what the outer loop keeps -/
structure LS (w1 wr : World) (A : Ad) (e : Eo) (sb : Nat) (z p q : Int) (c : Int → Nat) (u1 u2 : Int) (k mm : Nat) : Prop where
  sl : SL w1 wr A e sb z p q c u1 u2 u1 u2
  c1 : c 1 ≤ 5
  c2 : c 2 ≤ 5
  cr0 : 0 ≤ e.credit
  cr1 : e.credit < z
  r0 : 0 ≤ e.row
  r1 : e.row ≤ 10 * (k : Int)
  a0 : 0 ≤ u1
  a1 : u1 ≤ 120 * (k : Int)
  b0 : 0 ≤ u2
  b1 : u2 ≤ 120 * (k : Int)
  m : mm ≤ 100 * k
theorem SL.start {w1 w4 : World} {A : Ad} {fb1 qb1 sb1 fb2 qb2 sb2 sb : Nat} {z p q : Int} (h : Ru w1.heap.size w1 w4 A 2 (addE (addE (fresh 5 1000 100 40 3) ⟨1, fb1, true, qb1, .slice none 0 0, que.fresh 5 1000⟩ (drr.addS (drr.fresh 40) 1 sb1 p)) ⟨2, fb2, true, qb2, .slice none 0 0, que.fresh 5 1000⟩ (drr.addS (drr.addS (drr.fresh 40) 1 sb1 p) 2 sb2 q)))
    (hb : Blk w4 sb #[.int .i64 0, .int .i64 0, .int .i64 0] A3) (hs : w1.heap.size ≤ sb) (z1 : 1 ≤ z) :
    LS w1 w4 A (addE (addE (fresh 5 1000 100 40 3) ⟨1, fb1, true, qb1, .slice none 0 0, que.fresh 5 1000⟩ (drr.addS (drr.fresh 40) 1 sb1 p)) ⟨2, fb2, true, qb2, .slice none 0 0, que.fresh 5 1000⟩ (drr.addS (drr.addS (drr.fresh 40) 1 sb1 p) 2 sb2 q)) sb z p q (fun _ => 0) 0 0 0 0 := by
  refine ⟨⟨h, ⟨rfl, ⟨fb1, qb1, .slice none 0 0, [], true, fb2, qb2, .slice none 0 0, [], true, rfl, ⟨rfl, fun x hx => by cases hx⟩, ⟨rfl, fun x hx => by cases hx⟩⟩, ⟨sb1, sb2, 0, 0, rfl, Int.le_refl _, Int.le_refl _, .inl ⟨rfl, rfl, rfl, rfl, rfl, rfl⟩⟩⟩, hb, hs⟩, Nat.zero_le _, Nat.zero_le _, Int.le_refl _, ?_, Int.le_refl _, Int.le_refl _, Int.le_refl _, Int.le_refl _, Int.le_refl _, Int.le_refl _, Nat.le_refl _⟩
  show (0 : Int) < z
  omega
theorem sum_of {z : Int} {l : List Snt} {j : Nat} (i : Int) (u : Int) (h : j = l.length) : u + z * cnt i (l.take j) = u + z * cnt i l := by rw [h, List.take_length]
theorem cnt_le (i : Int) (l : List Snt) : cnt i l ≤ l.length := List.countP_le_length

theorem fill {id : Nat} {c' cx : Int → Nat} (hid : (id : Int) = 1 ∨ (id : Int) = 2) (h5 : cx id = 5) (hy : ∀ i : Int, i ≠ (id : Int) → cx i = c' i) (h1 : c' 1 ≤ 5) (h2 : c' 2 ≤ 5) (h3 : 2 ≤ id → c' 1 = 5) : cx 1 ≤ 5 ∧ cx 2 ≤ 5 ∧ (2 ≤ id + 1 → cx 1 = 5) ∧ (3 ≤ id + 1 → cx 2 = 5) := by
  rcases hid with e | e
  · rw [e] at h5
    have := hy 2 (by rw [e]; decide)
    exact ⟨by omega, by omega, fun _ => h5, fun h => by omega⟩
  · rw [e] at h5
    have := hy 1 (by rw [e]; decide)
    have := h3 (by omega)
    exact ⟨by omega, by omega, fun _ => by omega, fun _ => h5⟩
/-- in the loop over what went out: j of them are told and put again -/
structure LO (w1 wx : World) (A : Ad) (e : Eo) (sb : Nat) (z p q : Int) (c : Int → Nat) (u1 u2 : Int) (l : List Snt) (v : Value) (j : Nat) (cr rw_ : Int) : Prop where
  sl : SL w1 wx A e sb z p q c (u1 + z * cnt 1 l) (u2 + z * cnt 2 l) (u1 + z * cnt 1 (l.take j)) (u2 + z * cnt 2 (l.take j))
  c1 : c 1 + cnt 1 l = 5 + cnt 1 (l.take j)
  c2 : c 2 + cnt 2 l = 5 + cnt 2 (l.take j)
  cr : e.credit = cr
  rw_ : e.row = rw_
  own : Owns SE SeT wx v l
theorem inc_sum {u z : Int} {i : Int} {l : List Snt} {j : Nat} {x : Snt} (h : l[j]? = some x) (hx : x.id = i) : u + z * cnt i (l.take (j + 1)) = u + z * cnt i (l.take j) + z := by
  rw [cnt_take h, if_pos hx]
  push_cast
  rw [Int.mul_add, Int.mul_one]
  omega
theorem inc_not {u z : Int} {i : Int} {l : List Snt} {j : Nat} {x : Snt} (h : l[j]? = some x) (hx : x.id ≠ i) : u + z * cnt i (l.take (j + 1)) = u + z * cnt i (l.take j) := by
  rw [cnt_take h, if_neg hx]
  rfl

set_option maxRecDepth 100000 in
set_option maxHeartbeats 8000000 in
theorem shares_law (a0 b0 c0 : Int) (ao : Option Addr) (n c : Nat) (g : Nat → Int) (w : World) (ha0 : -9223372036854775808 ≤ a0) (ha1 : a0 ≤ 9223372036854775807) (hb0 : -9223372036854775808 ≤ b0) (hb1 : b0 ≤ 9223372036854775807) (hc0 : -9223372036854775808 ≤ c0) (hc1 : c0 ≤ 9223372036854775807) (h : args.IntRow .i64 w ao n c g) :
    Calls Tryz.prog 5 #[.int .i64 a0, .int .i64 b0, .int .i64 c0, .slice ao n c] w fun e w' => e = .returned (.bool true) ∧ Below w.heap.size w w' := by
  have HL := Lib.hid (top.live w)
  have M6 := mask.mask6 a0
  have M7 := mask.mask6 b0
  have M8 := mask.mask8 c0
  obtain ⟨p, hp, hp0, hp1⟩ : ∃ p : Int, 40 + a0 % 64 = p ∧ 40 ≤ p ∧ p ≤ 103 := ⟨_, rfl, by omega, by omega⟩
  obtain ⟨q, hq, hq0, hq1⟩ : ∃ q : Int, 40 + b0 % 64 = q ∧ 40 ≤ q ∧ q ≤ 103 := ⟨_, rfl, by omega, by omega⟩
  obtain ⟨z, hz, hz0, hz1⟩ : ∃ z : Int, 1 + c0 % 256 % 40 = z ∧ 1 ≤ z ∧ z ≤ 40 := ⟨_, rfl, by omega, by omega⟩
  have W1 : IntKind.i64.wrap (40 + a0 % 64) = p := by rw [hp]; exact IntWalk.i64_in _ (by omega)
  have W2 : IntKind.i64.wrap (40 + b0 % 64) = q := by rw [hq]; exact IntWalk.i64_in _ (by omega)
  have W3 : IntKind.i64.wrap (1 + c0 % 256 % 40) = z := by rw [hz]; exact IntWalk.i64_in _ (by omega)
  have W4 : 0 ≤ c0 % 256 := by omega
  have HP : Hid (40 ≤ p ∧ p ≤ 103) := Lib.hid ⟨hp0, hp1⟩
  have HQ : Hid (40 ≤ q ∧ q ≤ 103) := Lib.hid ⟨hq0, hq1⟩
  have HZ : Hid (1 ≤ z ∧ z ≤ 40) := Lib.hid ⟨hz0, hz1⟩
  obtain ⟨hn, _, hrow⟩ := h
  have HROW := Lib.hid hrow
  have HN := Lib.hid (fun W => egr.new_ok 5 1000 100 40 3 W ⟨by omega, by omega, by omega, by omega, by omega⟩)
  clear hrow hp hq hz ha0 ha1 hb0 hb1 hc0 hc1 hp0 hp1 hq0 hq1 hz0 hz1
  go_enter Tryz.func5, Tryz.ntmps5
  go_wp2_with fail
  refine HL.out.mono ?_
  rintro e w1 ⟨rfl, n1⟩
  have HN1 := Lib.hid n1
  clear n1 HL
  go_upto_region 4 with fail
  clear M6 M7 M8 W1 W2 W3 W4
  go_wp2_with fail
  refine (HN.out _).mono ?_
  rintro e w2 ⟨A, rfl, hm⟩
  have HR0 := Lib.hid hm.ru
  clear hm HN
  have HA1 := Lib.hid (add_video A 0 _ 1 p w2 HR0.out.es (by decide) (by decide) rfl (by decide) HP.out.1 (by have := HP.out.2; omega))
  go_wp2_with fail
  refine HA1.out.mono ?_
  rintro e w3 ⟨rfl, fb1, qb1, sb1, hf, hq, hsb, hes, ht⟩
  have HR1 := Lib.hid (HR0.out.add hes ht hq rfl (fun g hg => by
    rcases List.mem_append.1 hg with hg | hg
    · exact .inl hg
    · simp at hg; subst hg
      exact .inr hsb))
  clear hf hq hsb hes ht HA1 HR0
  have HA2 := Lib.hid (add_video A 1 _ 2 q w3 HR1.out.es (by decide) (by decide) rfl (by decide) HQ.out.1 (by have := HQ.out.2; omega))
  go_wp2_with fail
  refine HA2.out.mono ?_
  rintro e w4 ⟨rfl, fb2, qb2, sb2, hf, hq, hsb, hes, ht⟩
  have HR2 := Lib.hid (HR1.out.add hes ht hq rfl (fun g hg => by
    rcases List.mem_append.1 hg with hg | hg
    · exact .inl hg
    · simp at hg; subst hg
      exact .inr hsb))
  clear hf hq hsb hes ht HA2 HR1
  go_upto_region 9 with fail
  have HS0 := Lib.hid (SL.start (z := z) (HR2.out.later ((Turns.refl _ w4).alloc (.cells #[.int .i64 0, .int .i64 0, .int .i64 0] A3))) (Blk.new w4 _ _) (Nat.le_trans HR2.out.sf.t.size (Nat.le_refl _)) HZ.out.1)
  generalize addE _ _ _ = e0 at *
  refine (show Code.wp _ _ _ _ (w4.alloc (.cells #[.int .i64 0, .int .i64 0, .int .i64 0] A3)) from ?_)
  generalize w4.alloc (.cells #[.int .i64 0, .int .i64 0, .int .i64 0] A3) = w5 at *
  generalize w4.heap.size = sb at *
  clear HR2
  go_wp2_with fail
  go_loopw [11, 13] (fun m i wr => ∃ (k mm : Nat) (e : Eo) (c : Int → Nat) (u1 u2 : Int), k ≤ n ∧ k ≤ 60 ∧ m = .int .i64 mm ∧ i = .int .i64 k ∧ LS w1 wr A e sb z p q c u1 u2 k mm) (fun _ i _ => n - (intOf i).toNat)
  case atStart => exact ⟨0, 0, _, _, _, _, Nat.zero_le _, by omega, rfl, rfl, HS0.out⟩
  case round =>
    obtain ⟨k, mm, e, cc, u1, u2, hk, hk60, rfl, rfl, hls⟩ := hrel
    have HLS := Lib.hid hls
    clear hls HS0
    by_cases hgo : k < n ∧ k < 60
    · obtain ⟨hlt, h60⟩ := hgo
      obtain ⟨bq, off, rfl, hb, hc⟩ := HROW.out.resolve_left (by omega)
      have HGR : Hid (∀ W, Sf w1.heap.size A w1 W → W.cell? ⟨bq, off + k, none⟩ = some (.int .i64 (g k))) := Lib.hid (fun W hs => (hs.t.cell (a := ⟨bq, off + k, none⟩) (Nat.lt_of_lt_of_le hb HN1.out.size) (Nat.not_le_of_lt (Nat.lt_of_lt_of_le hb HN1.out.size))).trans ((HN1.out.cell (a := ⟨bq, off + k, none⟩) hb (fun h => h)).trans (hc k hlt)))
      clear hb hc
      have d1 : decide ((k : Int) < (n : Int)) = true := decide_eq_true (by omega)
      have d2 : decide ((k : Int) < 60) = true := decide_eq_true (by omega)
      have j0 : (0 : Int) ≤ (k : Int) := by omega
      have j1 : (k : Int) < (n : Int) := by omega
      generalize g k = gk at *
      go_upto_region 12 with fail
      go_wp2_with fail
      go_loopw [11, 14] (fun m i wx => ∃ (mm' id : Nat) (e' : Eo) (c' : Int → Nat), m = .int .i64 mm' ∧ i = .int .i64 id ∧ 1 ≤ id ∧ id ≤ 3 ∧ SL w1 wx A e' sb z p q c' u1 u2 u1 u2 ∧ c' 1 ≤ 5 ∧ c' 2 ≤ 5 ∧ (2 ≤ id → c' 1 = 5) ∧ (3 ≤ id → c' 2 = 5) ∧ e'.credit = e.credit ∧ e'.row = e.row ∧ mm' ≤ mm + 5 * (id - 1)) (fun _ i _ => 3 - (intOf i).toNat)
      case atStart => exact ⟨mm, 1, e, cc, rfl, rfl, by omega, by omega, HLS.out.sl, HLS.out.c1, HLS.out.c2, (fun h => by omega), (fun h => by omega), rfl, rfl, by omega⟩
      case round =>
        obtain ⟨mm', id, e', c', rfl, rfl, hi1, hi3, hsl, hc1, hc2, hc3, hc4, hcr, hrw, hmm⟩ := hrel
        have HSL := Lib.hid hsl
        have HC := Lib.hid (And.intro hc1 (And.intro hc2 (And.intro hc3 (And.intro hc4 (And.intro hcr (And.intro hrw hmm))))))
        clear hsl hc1 hc2 hc3 hc4 hcr hrw hmm
        by_cases hid3 : id ≤ 2
        · have d3 : decide ((id : Int) ≤ 2) = true := decide_eq_true (by omega)
          have HID : Hid ((id : Int) = 1 ∨ (id : Int) = 2) := Lib.hid (by omega)
          have HCI : Hid (c' (id : Int) ≤ 5) := Lib.hid (by rcases HID.out with h | h <;> rw [h]; exact HC.out.1; exact HC.out.2.1)
          obtain ⟨N, hN⟩ : ∃ N, N = mm' + (5 - c' (id : Int)) := ⟨_, rfl⟩
          have HNN := Lib.hid hN
          clear hN
          go_wp2_with fail
          go_loopw [11] (fun m wx => ∃ (mx : Nat) (ex : Eo) (cx : Int → Nat), m = .int .i64 mx ∧ SL w1 wx A ex sb z p q cx u1 u2 u1 u2 ∧ cx (id : Int) ≤ 5 ∧ (∀ i : Int, i ≠ (id : Int) → cx i = c' i) ∧ ex.credit = e.credit ∧ ex.row = e.row ∧ mx + (5 - cx (id : Int)) = N) (fun m _ => N - (intOf m).toNat)
          case atStart => exact ⟨mm', e', c', rfl, HSL.out, HCI.out, (fun _ _ => rfl), HC.out.2.2.2.2.1, HC.out.2.2.2.2.2.1, HNN.out.symm⟩
          case round =>
            obtain ⟨mx, ex, cx, rfl, hslx, hcx, hcy, hcrx, hrwx, hmx⟩ := hrel
            have HSX := Lib.hid hslx
            have HCX := Lib.hid (And.intro hcx (And.intro hcy (And.intro hcrx (And.intro hrwx hmx))))
            have HNB : Hid (mx ≤ 10000) := Lib.hid (by have := HLS.out.m; have := HC.out.2.2.2.2.2.2; have := HNN.out; omega)
            clear hslx hcy hcrx hrwx
            have HWT := Lib.hid (HSX.out.waits HID.out)
            go_wp2_with fail
            refine HWT.out.mono ?_
            rintro e w6 ⟨sz, rfl, n6⟩
            have HS6 := Lib.hid (HSX.out.later n6)
            clear n6 HWT
            by_cases h5 : cx (id : Int) = 5
            · have q5 : ((cx (id : Int) : Int) == 5) = true := by rw [h5]; rfl
              have hw : IntKind.i64.wrap ((id : Int) + 1) = (id : Int) + 1 := IntWalk.i64_in _ (by omega)
              have H5 := Lib.hid h5
              clear h5 hcx hmx
              go_wp2_with fail
              go_roundw
              case rel =>
                obtain ⟨f1, f2, f3, f4⟩ := fill HID.out H5.out HCX.out.2.1 HC.out.1 HC.out.2.1 HC.out.2.2.1
                have hcx2 := HCX.out.2.2.2.2
                have hc2 := HC.out.2.2.2.2.2.2
                have hnn := HNN.out
                exact ⟨mx, id + 1, ex, cx, rfl, by push_cast; go_num, by omega, by omega, HS6.out, f1, f2, f3, f4, HCX.out.2.2.1, HCX.out.2.2.2.1, by omega⟩
              case measure => simp [intOf]; omega
            · have q5 : ((cx (id : Int) : Int) == 5) = false := by simp; omega
              have hw : IntKind.i64.wrap ((mx : Int) + 1) = (mx : Int) + 1 := IntWalk.i64_in _ (by have := HNB.out; omega)
              have HPUT := Lib.hid (HS6.out.put HID.out (by omega) HZ.out.1 HZ.out.2 ((mx : Int) + 1))
              have H5 := Lib.hid h5
              clear h5 hcx
              go_wp2_with fail
              refine HPUT.out.mono ?_
              rintro e w7 ⟨aq, mq, cq, e7, rfl, hs7, hk1, hk2, _⟩
              have HS7 := Lib.hid hs7
              have HK := Lib.hid (And.intro hk1 hk2)
              clear hs7 HPUT hk1 hk2
              go_wp2_with fail
              go_roundw
              case rel =>
                have h5 := H5.out
                have hcx1 := HCX.out.1
                have hcx2 := HCX.out.2.2.2.2
                exact ⟨mx + 1, e7, incC cx (id : Int), by push_cast; go_num, HS7.out, by rw [incC_same]; omega, (fun i hi => (incC_other hi).trans (HCX.out.2.1 i hi)), HK.out.1.trans HCX.out.2.2.1, HK.out.2.trans HCX.out.2.2.2.1, by rw [incC_same]; omega⟩
              case measure =>
                have h5 := H5.out
                have hcx1 := HCX.out.1
                have hcx2 := HCX.out.2.2.2.2
                simp [intOf, hw]; omega
        · have d3 : decide ((id : Int) ≤ 2) = false := decide_eq_false (by omega)
          have HF : Hid (c' 1 = 5 ∧ c' 2 = 5) := Lib.hid ⟨HC.out.2.2.1 (by omega), HC.out.2.2.2.1 (by omega)⟩
          have HCE : Hid (e'.credit = e.credit ∧ e'.row = e.row ∧ mm' ≤ mm + 10) := Lib.hid ⟨HC.out.2.2.2.2.1, HC.out.2.2.2.2.2.1, by have := HC.out.2.2.2.2.2.2; omega⟩
          have e0 := HGR.out _ HSL.out.ru.sf
          have M7 := mask.mask7 gk
          have W5 : IntKind.i64.wrap (3 * z) = 3 * z := IntWalk.i64_in _ (by have := HZ.out; omega)
          obtain ⟨gr, hgr⟩ : ∃ gr, min (gk % 128) (3 * z) = gr := ⟨_, rfl⟩
          have HGB : Hid (0 ≤ gr ∧ gr ≤ 3 * z ∧ 3 * z ≤ 120) := Lib.hid (by have := HZ.out; omega)
          have HGT := Lib.hid (HSL.out.grant gr HGB.out.1 (by have := HGB.out; omega) (by have := HLS.out.cr1; have := HCE.out.1; have := HZ.out; omega))
          have HG0 := Lib.hid hgr
          clear hgr
          go_upto_region 22 with (first | (rw [HG0.out]; refine HGT.out.mono ?_; rintro e w6 ⟨e6, rfl, hs6, hcr6, hrw6⟩))
          have HS6 := Lib.hid hs6
          have HCR6 : Hid (0 ≤ e6.credit ∧ e6.credit < 4 * z ∧ 0 ≤ e6.row ∧ e6.row ≤ 10 * (k : Int)) := Lib.hid (by
            have h1 := HLS.out.cr0
            have h2 := HLS.out.cr1
            have h3 := HLS.out.r0
            have h4 := HLS.out.r1
            have h5 := HCE.out
            have h6 := HGB.out
            omega)
          clear hs6 hcr6 hrw6 HGT e0 M7 W5
          have HRUN := Lib.hid (HS6.out.run HF.out.1 HF.out.2 HP.out.1 HQ.out.1 HZ.out.1 HZ.out.2 HCR6.out.1 HCR6.out.2.1 HCR6.out.2.2.1 (by have := HCR6.out.2.2.2; omega))
          go_wp2_with fail
          refine HRUN.out.mono ?_
          rintro e w7 ⟨v, l, e7, c7, rfl, hrn⟩
          obtain ⟨al, cl, hv, _⟩ := hrn.own.form
          have HRN := Lib.hid hrn
          obtain ⟨nl, hnl⟩ : ∃ nl, nl = l.length := ⟨_, rfl⟩
          have HNL := Lib.hid hnl
          rw [← hnl] at hv
          clear hrn hnl HRUN
          subst hv
          have HL0 : Hid (LO w1 w7 A e7 sb z p q c7 u1 u2 l (.slice al nl cl) 0 e7.credit e7.row) := Lib.hid ⟨by have h := HRN.out.sl; simpa [cnt] using h, HRN.out.c1, HRN.out.c2, rfl, rfl, HRN.out.own⟩
          have HMB : Hid (mm' ≤ 10000) := Lib.hid (by have := HLS.out.m; have := HCE.out.2.2; omega)
          go_wp2_with fail
          go_loopw [11, 102] (fun m i wx => ∃ (j mx : Nat) (ex : Eo) (cx : Int → Nat), j ≤ nl ∧ mx = mm' + j ∧ m = .int .i64 mx ∧ i = .int .i64 j ∧ LO w1 wx A ex sb z p q cx u1 u2 l (.slice al nl cl) j e7.credit e7.row) (fun _ i _ => nl - (intOf i).toNat)
          case atStart => exact ⟨0, mm', e7, c7, Nat.zero_le _, rfl, rfl, rfl, HL0.out⟩
          case round =>
            obtain ⟨j, mx, ex, cx, hj, hmx, rfl, rfl, hlo⟩ := hrel
            have HLO := Lib.hid hlo
            have HMX := Lib.hid hmx
            have HL3 : Hid (nl ≤ 3) := Lib.hid (by have := HRN.out.len; have := HNL.out; omega)
            clear hlo hmx HL0
            by_cases hjn : j < nl
            · obtain ⟨x, hx⟩ : ∃ x, l[j]? = some x := ⟨_, List.getElem?_eq_getElem (by have := HNL.out; omega)⟩
              have HX := Lib.hid hx
              have HXI := Lib.hid (HRN.out.id x (List.mem_of_getElem? hx))
              obtain ⟨gx, hgx, hgl, hcell⟩ := own_at HLO.out.own hx
              subst hgx
              have z0 := hcell 0 _ rfl
              have z1 := hcell 1 _ rfl
              have z2 := hcell 2 _ rfl
              have z3 := hcell 3 _ rfl
              have z4 := hcell 4 _ rfl
              change wr.cell? ⟨gx, j * 5, none⟩ = some (.int .i64 x.id) at z0
              change wr.cell? ⟨gx, j * 5 + 1, none⟩ = some (.int .i64 x.x.n) at z1
              change wr.cell? ⟨gx, j * 5 + 2, none⟩ = some (.int .i64 x.x.size) at z2
              change wr.cell? ⟨gx, j * 5 + 3, none⟩ = some (.int .i64 x.x.tick) at z3
              change wr.cell? ⟨gx, j * 5 + 4, none⟩ = some (.bool x.x.key) at z4
              have d4 : decide ((j : Int) < (nl : Int)) = true := decide_eq_true (by omega)
              have j3 : (j : Int) < (nl : Int) := by omega
              have hw : IntKind.i64.wrap ((j : Int) + 1) = (j : Int) + 1 := IntWalk.i64_in _ (by have := HL3.out; omega)
              have hw2 : IntKind.i64.wrap ((mx : Int) + 1) = (mx : Int) + 1 := IntWalk.i64_in _ (by have := HL3.out; have := HMX.out; have := HMB.out; omega)
              clear hx hcell
              generalize x.x.n = xn at *
              generalize x.x.size = xs at *
              generalize x.x.tick = xt at *
              generalize x.x.key = xk at *
              obtain ⟨xi, hxi⟩ : ∃ xi, x.id = xi := ⟨_, rfl⟩
              have HXE := Lib.hid hxi
              rw [hxi] at z0 HXI
              clear hxi
              have HB : Hid (Blk (wr.alloc (.cells #[.int .i64 xi, .int .i64 xn, .int .i64 xs, .int .i64 xt, .bool xk] SeT)) wr.heap.size #[.int .i64 xi, .int .i64 xn, .int .i64 xs, .int .i64 xt, .bool xk] SeT) := Lib.hid (Blk.new _ _ _)
              have HS8 := Lib.hid (HLO.out.sl.later ((Turns.refl _ wr).alloc (.cells #[.int .i64 xi, .int .i64 xn, .int .i64 xs, .int .i64 xt, .bool xk] SeT)))
              have HO8 := Lib.hid (HLO.out.own.turns (S := fun _ => False) ((Turns.refl _ wr).alloc (.cells #[.int .i64 xi, .int .i64 xn, .int .i64 xs, .int .i64 xt, .bool xk] SeT)) (fun _ _ h => h))
              have HPX : Hid (wr.heap.size ≠ sb) := Lib.hid (Nat.ne_of_gt HLO.out.sl.sent.lt)
              go_upto_region 25 with fail
              refine (show Code.wp _ _ _ _ (wr.alloc (.cells #[.int .i64 xi, .int .i64 xn, .int .i64 xs, .int .i64 xt, .bool xk] SeT)) from ?_)
              generalize wr.alloc (.cells #[.int .i64 xi, .int .i64 xn, .int .i64 xs, .int .i64 xt, .bool xk] SeT) = w8 at *
              generalize wr.heap.size = px at *
              clear z0 z1 z2 z3 z4 hgl
              have z0 : w8.cell? ⟨px, 0, none⟩ = some (.int .i64 xi) := HB.out.cell 0
              obtain ⟨V1, hV1⟩ : ∃ V1, u1 + z * cnt 1 (l.take j) = V1 := ⟨_, rfl⟩
              obtain ⟨V2, hV2⟩ : ∃ V2, u2 + z * cnt 2 (l.take j) = V2 := ⟨_, rfl⟩
              have HV1 := Lib.hid hV1
              have HV2 := Lib.hid hV2
              have HVB : Hid (0 ≤ V1 ∧ V1 ≤ 10000 ∧ 0 ≤ V2 ∧ V2 ≤ 10000) := Lib.hid (by
                have h1 := cnt_le 1 (l.take j)
                have h2 := cnt_le 2 (l.take j)
                have h3 : (l.take j).length ≤ 3 := by rw [List.length_take]; have := HL3.out; have := HNL.out; omega
                have h4 := HLS.out
                have h5 := HZ.out
                have m1 : 0 ≤ z * (cnt 1 (l.take j) : Int) := Int.mul_nonneg (by omega) (by omega)
                have m2 : 0 ≤ z * (cnt 2 (l.take j) : Int) := Int.mul_nonneg (by omega) (by omega)
                have m3 : z * (cnt 1 (l.take j) : Int) ≤ z * 3 := Int.mul_le_mul_of_nonneg_left (by omega) (by omega)
                have m4 : z * (cnt 2 (l.take j) : Int) ≤ z * 3 := Int.mul_le_mul_of_nonneg_left (by omega) (by omega)
                have := h4.a0
                have := h4.a1
                have := h4.b0
                have := h4.b1
                omega)
              rw [hV1, hV2] at HS8
              have hsb := HS8.out.sent
              clear hV1 hV2
              have b0 := hsb.cell 0
              have b1 := hsb.cell 1
              have b2 := hsb.cell 2
              have g1 := hsb.free 1
              have g2 := hsb.free 2
              change w8.cell? ⟨sb, 0, none⟩ = some (.int .i64 0) at b0
              change w8.cell? ⟨sb, 1, none⟩ = some (.int .i64 V1) at b1
              change w8.cell? ⟨sb, 2, none⟩ = some (.int .i64 V2) at b2
              have hxi := HXI.out
              clear HXI
              rcases hxi with rfl | rfl
              · obtain ⟨Y, hY⟩ : ∃ Y, Y = V1 + z := ⟨_, rfl⟩
                have HY := Lib.hid hY
                have hw3 : IntKind.i64.wrap (V1 + z) = Y := by rw [hY]; exact IntWalk.i64_in _ (by have := HVB.out; have := HZ.out; omega)
                have HCL : Hid (cx 1 < 5) := Lib.hid (by
                  have h1 := HLO.out.c1
                  have h2 := cnt_more HX.out HXE.out
                  omega)
                have T9 : Turns (· = sb) w8 (w8.setCell ⟨sb, 1, none⟩ (.int .i64 Y)) := (Turns.refl (· = sb) _).setCell (.inl rfl) _
                have HS9 : Hid (SL w1 (w8.setCell ⟨sb, 1, none⟩ (.int .i64 Y)) A ex sb z p q cx (u1 + z * cnt 1 l) (u2 + z * cnt 2 l) Y V2) := Lib.hid (HS8.out.store T9 (hsb.set 1 _))
                have HB9 := Lib.hid (T9.blk HB.out HPX.out)
                have HO9 := Lib.hid (HO8.out.turns T9 (fun g hg e => own_ne HO8.out hsb (by decide) (by rw [hg, e])))
                clear hY hsb T9
                go_upto_region 26 with fail
                refine (show Code.wp _ _ _ _ (w8.setCell ⟨sb, 1, none⟩ (.int .i64 Y)) from ?_)
                generalize w8.setCell ⟨sb, 1, none⟩ (.int .i64 Y) = w9 at *
                clear z0 b0 b1 b2 g1 g2 hw3
                have z0 : w9.cell? ⟨px, 0, none⟩ = some (.int .i64 1) := HB9.out.cell 0
                have HPUT := Lib.hid (HS9.out.put (id := 1) (.inl rfl) HCL.out HZ.out.1 HZ.out.2 ((mx : Int) + 1))
                go_wp2_with fail
                refine HPUT.out.mono ?_
                rintro e w10 ⟨aq, mq, cq, e10, rfl, hs10, hk1, hk2, hsf10⟩
                have HS10 := Lib.hid hs10
                have HO10 := Lib.hid (hsf10.row HO9.out (by decide) (by decide) (by decide) (by decide) (by decide))
                have HK := Lib.hid (And.intro hk1 hk2)
                clear hs10 hsf10 hk1 hk2 HPUT z0
                go_wp2_with fail
                go_roundw
                case rel => exact ⟨j + 1, mx + 1, e10, incC cx 1, by omega, by have := HMX.out; omega, by push_cast; go_num, by push_cast; go_num, ⟨by rw [inc_sum HX.out HXE.out, inc_not HX.out (by rw [HXE.out]; decide), HV1.out, HV2.out, ← HY.out]; exact HS10.out, (by rw [cnt_take HX.out, if_pos HXE.out, incC_same]; have := HLO.out.c1; omega), (by rw [cnt_take HX.out, if_neg (by rw [HXE.out]; decide), incC_other (by decide)]; exact HLO.out.c2), HK.out.1.trans HLO.out.cr, HK.out.2.trans HLO.out.rw_, HO10.out⟩⟩
                case measure => simp [intOf, hw]; omega
              · obtain ⟨Y, hY⟩ : ∃ Y, Y = V2 + z := ⟨_, rfl⟩
                have HY := Lib.hid hY
                have hw3 : IntKind.i64.wrap (V2 + z) = Y := by rw [hY]; exact IntWalk.i64_in _ (by have := HVB.out; have := HZ.out; omega)
                have HCL : Hid (cx 2 < 5) := Lib.hid (by
                  have h1 := HLO.out.c2
                  have h2 := cnt_more HX.out HXE.out
                  omega)
                have T9 : Turns (· = sb) w8 (w8.setCell ⟨sb, 2, none⟩ (.int .i64 Y)) := (Turns.refl (· = sb) _).setCell (.inl rfl) _
                have HS9 : Hid (SL w1 (w8.setCell ⟨sb, 2, none⟩ (.int .i64 Y)) A ex sb z p q cx (u1 + z * cnt 1 l) (u2 + z * cnt 2 l) V1 Y) := Lib.hid (HS8.out.store T9 (hsb.set 2 _))
                have HB9 := Lib.hid (T9.blk HB.out HPX.out)
                have HO9 := Lib.hid (HO8.out.turns T9 (fun g hg e => own_ne HO8.out hsb (by decide) (by rw [hg, e])))
                clear hY hsb T9
                go_upto_region 26 with fail
                refine (show Code.wp _ _ _ _ (w8.setCell ⟨sb, 2, none⟩ (.int .i64 Y)) from ?_)
                generalize w8.setCell ⟨sb, 2, none⟩ (.int .i64 Y) = w9 at *
                clear z0 b0 b1 b2 g1 g2 hw3
                have z0 : w9.cell? ⟨px, 0, none⟩ = some (.int .i64 2) := HB9.out.cell 0
                have HPUT := Lib.hid (HS9.out.put (id := 2) (.inr rfl) HCL.out HZ.out.1 HZ.out.2 ((mx : Int) + 1))
                go_wp2_with fail
                refine HPUT.out.mono ?_
                rintro e w10 ⟨aq, mq, cq, e10, rfl, hs10, hk1, hk2, hsf10⟩
                have HS10 := Lib.hid hs10
                have HO10 := Lib.hid (hsf10.row HO9.out (by decide) (by decide) (by decide) (by decide) (by decide))
                have HK := Lib.hid (And.intro hk1 hk2)
                clear hs10 hsf10 hk1 hk2 HPUT z0
                go_wp2_with fail
                go_roundw
                case rel => exact ⟨j + 1, mx + 1, e10, incC cx 2, by omega, by have := HMX.out; omega, by push_cast; go_num, by push_cast; go_num, ⟨by rw [inc_not HX.out (by rw [HXE.out]; decide), inc_sum HX.out HXE.out, HV1.out, HV2.out, ← HY.out]; exact HS10.out, (by rw [cnt_take HX.out, if_neg (by rw [HXE.out]; decide), incC_other (by decide)]; exact HLO.out.c1), (by rw [cnt_take HX.out, if_pos HXE.out, incC_same]; have := HLO.out.c2; omega), HK.out.1.trans HLO.out.cr, HK.out.2.trans HLO.out.rw_, HO10.out⟩⟩
                case measure => simp [intOf, hw]; omega
            · have d4 : decide ((j : Int) < (nl : Int)) = false := decide_eq_false (by omega)
              have d4' : decide (j < nl) = false := decide_eq_false hjn
              have HJ : Hid (j = l.length) := Lib.hid (by have := HNL.out; omega)
              have hsl := HLO.out.sl
              rw [sum_of 1 u1 HJ.out, sum_of 2 u2 HJ.out] at hsl
              have HSE := Lib.hid hsl
              have HBD := Lib.hid (hsl.sh.d.bound HP.out.1 HQ.out.1)
              have HUB : Hid ((0 ≤ u1 + z * cnt 1 l ∧ u1 + z * cnt 1 l ≤ 120 * ((k + 1 : Nat) : Int)) ∧ (0 ≤ u2 + z * cnt 2 l ∧ u2 + z * cnt 2 l ≤ 120 * ((k + 1 : Nat) : Int))) := Lib.hid (by
                have h1 := cnt_le 1 l
                have h2 := cnt_le 2 l
                have h3 := HRN.out.len
                have h4 := HLS.out
                have h5 := HZ.out
                have m1 : 0 ≤ z * (cnt 1 l : Int) := Int.mul_nonneg (by omega) (by omega)
                have m2 : 0 ≤ z * (cnt 2 l : Int) := Int.mul_nonneg (by omega) (by omega)
                have m3 : z * (cnt 1 l : Int) ≤ z * 3 := Int.mul_le_mul_of_nonneg_left (by omega) (by omega)
                have m4 : z * (cnt 2 l : Int) ≤ z * 3 := Int.mul_le_mul_of_nonneg_left (by omega) (by omega)
                have := h4.a0
                have := h4.a1
                have := h4.b0
                have := h4.b1
                push_cast
                omega)
              have HC5 : Hid (cx 1 = 5 ∧ cx 2 = 5) := Lib.hid (by
                have h1 := HLO.out.c1
                have h2 := HLO.out.c2
                rw [HJ.out, List.take_length] at h1 h2
                omega)
              clear hsl
              generalize u1 + z * (cnt 1 l : Int) = U1 at *
              generalize u2 + z * (cnt 2 l : Int) = U2 at *
              have hsb := HSE.out.sent
              have b1 := hsb.cell 1
              have b2 := hsb.cell 2
              change wr.cell? ⟨sb, 1, none⟩ = some (.int .i64 U1) at b1
              change wr.cell? ⟨sb, 2, none⟩ = some (.int .i64 U2) at b2
              have m1 : 0 ≤ U1 * q := Int.mul_nonneg HUB.out.1.1 (by have := HQ.out.1; omega)
              have m2 : 0 ≤ U2 * p := Int.mul_nonneg HUB.out.2.1 (by have := HP.out.1; omega)
              have m3 : U1 * q ≤ 7320 * q := Int.mul_le_mul_of_nonneg_right (by have := HUB.out.1.2; omega) (by have := HQ.out.1; omega)
              have m4 : U2 * p ≤ 7320 * p := Int.mul_le_mul_of_nonneg_right (by have := HUB.out.2.2; omega) (by have := HP.out.1; omega)
              have m5 : 0 ≤ p * q := Int.mul_nonneg (by have := HP.out.1; omega) (by have := HQ.out.1; omega)
              have m6 : p * q ≤ 103 * q := Int.mul_le_mul_of_nonneg_right (by have := HP.out.2; omega) (by have := HQ.out.1; omega)
              have hbd := HBD.out
              have hpb := HP.out
              have hqb := HQ.out
              obtain ⟨X1, hX1⟩ : ∃ X, X = U1 * q := ⟨_, rfl⟩
              obtain ⟨X2, hX2⟩ : ∃ X, X = U2 * p := ⟨_, rfl⟩
              obtain ⟨PQ, hPQ⟩ : ∃ X, X = p * q := ⟨_, rfl⟩
              rw [← hX1] at m1 m3 hbd
              rw [← hX2] at m2 m4 hbd
              rw [← hPQ] at m5 m6 hbd
              have w1' : IntKind.i64.wrap (U1 * q) = X1 := by rw [← hX1]; exact IntWalk.i64_in _ (by omega)
              have w2' : IntKind.i64.wrap (U2 * p) = X2 := by rw [← hX2]; exact IntWalk.i64_in _ (by omega)
              have w3' : IntKind.i64.wrap (X1 - X2) = X1 - X2 := IntWalk.i64_in _ (by omega)
              have w4' : IntKind.i64.wrap (p * q) = PQ := by rw [← hPQ]; exact IntWalk.i64_in _ (by omega)
              have w5' : IntKind.i64.wrap (40 * p) = 40 * p := IntWalk.i64_in _ (by omega)
              have w6' : IntKind.i64.wrap (PQ + 40 * p) = PQ + 40 * p := IntWalk.i64_in _ (by omega)
              have w7' : IntKind.i64.wrap (40 * q) = 40 * q := IntWalk.i64_in _ (by omega)
              have w8' : IntKind.i64.wrap (PQ + 40 * p + 40 * q) = PQ + 40 * p + 40 * q := IntWalk.i64_in _ (by omega)
              have w9' : IntKind.i64.wrap (-(X1 - X2)) = -(X1 - X2) := IntWalk.i64_in _ (by omega)
              have f1 : decide (PQ + 40 * p + 40 * q < X1 - X2) = false := decide_eq_false (by omega)
              have f2 : decide (PQ + 40 * p + 40 * q < -(X1 - X2)) = false := decide_eq_false (by omega)
              have hw : IntKind.i64.wrap ((k : Int) + 1) = (k : Int) + 1 := IntWalk.i64_in _ (by omega)
              clear m1 m2 m3 m4 m5 m6 hbd hpb hqb hX1 hX2 hPQ hjn hj hsb
              go_wp2_with fail
              go_roundw
              case rel =>
                have hls := HLS.out
                have hrn := HRN.out
                have hlo := HLO.out
                refine ⟨k + 1, mx, ex, cx, U1, U2, by omega, by omega, rfl, by push_cast; go_num, ⟨HSE.out, Nat.le_of_eq HC5.out.1, Nat.le_of_eq HC5.out.2, ?_, ?_, ?_, ?_, HUB.out.1.1, HUB.out.1.2, HUB.out.2.1, HUB.out.2.2, ?_⟩⟩
                · rw [hlo.cr]; exact hrn.cr0
                · rw [hlo.cr]; exact hrn.cr
                · rw [hlo.rw_]; exact hrn.r0
                · rw [hlo.rw_]
                  have h1 := hrn.r1
                  have h2 := HCR6.out.2.2.2
                  push_cast
                  omega
                · have := hls.m
                  have := HCE.out.2.2
                  have := HMX.out
                  have := HL3.out
                  have := HJ.out
                  have := HNL.out
                  omega
              case measure => simp [intOf, hw]; omega
    · have hx : ¬ k < n ∨ (k < n ∧ ¬ k < 60) := by omega
      clear hgo
      have HBL : Hid (Below w.heap.size w wr) := Lib.hid (Sf.below1 HN1.out HLS.out.sl.ru.sf)
      rcases hx with h1 | ⟨h1, h2⟩
      · have d1 : decide ((k : Int) < (n : Int)) = false := decide_eq_false (by omega)
        go_wp2
        go_ret
        exact ⟨rfl, HBL.out⟩
      · have d1 : decide ((k : Int) < (n : Int)) = true := decide_eq_true (by omega)
        have d2 : decide ((k : Int) < 60) = false := decide_eq_false (by omega)
        go_wp2
        go_ret
        exact ⟨rfl, HBL.out⟩
end Go.Proofs.YtcppibjllaablaaGreat.egr
