/-
  rtp: the reference's ext.
-/
import Derived.Test.YtkpmdaknojlkjaaRpRefHead
import Derived.BigRegion
namespace Go.Proofs.Ytkpmdaknojlkjaa.rp
open Go.RowKit mem rd wr oref sq
set_option linter.unusedVariables false

abbrev RR : TypeId := 85
theorem cells2' {w : World} {p : Nat} {a0 a1 : Value} {t : TypeId} (h : Blk w p #[a0, a1] t) : w.cell? ⟨p, 0, none⟩ = some a0 ∧ w.cell? ⟨p, 1, none⟩ = some a1 ∧ w.frozen? ⟨p, 0, none⟩ = false ∧ w.frozen? ⟨p, 1, none⟩ = false :=
  ⟨h.cell 0, h.cell 1, h.free 0, h.free 1⟩
/-- a reader's two cells stored -/
def put2 (w : World) (p : Nat) (s : ByteArray) (e : Int) : World := (w.setCell ⟨p, 0, none⟩ (.string s)).setCell ⟨p, 1, none⟩ (.int .i64 e)
theorem put2_blk {w : World} {p : Nat} {a0 a1 : Value} {t : TypeId} (h : Blk w p #[a0, a1] t) (s : ByteArray) (e : Int) : Blk (put2 w p s e) p #[.string s, .int .i64 e] t := by
  have h1 : Blk (w.setCell ⟨p, 0, none⟩ (.string s)) p #[.string s, a1] t := h.set 0 _
  exact h1.set 1 _
theorem put2_turns {S : Nat → Prop} {a w : World} {p : Nat} (h : Turns S a w) (hp : S p ∨ a.heap.size ≤ p) (s : ByteArray) (e : Int) : Turns S a (put2 w p s e) := (h.setCell (p := ⟨p, 0, none⟩) hp _).setCell (p := ⟨p, 1, none⟩) hp _
theorem put2_other {w : World} {p q : Nat} {cs : Array Value} {t : TypeId} (h : Blk w q cs t) (hne : p ≠ q) (s : ByteArray) (e : Int) : Blk (put2 w p s e) q cs t :=
  (h.setOther (a := ⟨p, 0, none⟩) hne _).setOther (a := ⟨p, 1, none⟩) hne _
theorem put11_other {w : World} {p q : Nat} {cs : Array Value} {t : TypeId} (h : Blk w q cs t) (hne : p ≠ q) (v0 v1 v2 v3 v4 v5 v6 v7 v8 v9 v10 : Value) : Blk (put11 w p v0 v1 v2 v3 v4 v5 v6 v7 v8 v9 v10) q cs t :=
  ((((((((((h.setOther (a := ⟨p, 0, none⟩) hne _).setOther (a := ⟨p, 1, none⟩) hne _).setOther (a := ⟨p, 2, none⟩) hne _).setOther (a := ⟨p, 3, none⟩) hne _).setOther (a := ⟨p, 4, none⟩) hne _).setOther (a := ⟨p, 5, none⟩) hne _).setOther (a := ⟨p, 6, none⟩) hne _).setOther (a := ⟨p, 7, none⟩) hne _).setOther (a := ⟨p, 8, none⟩) hne _).setOther (a := ⟨p, 9, none⟩) hne _).setOther (a := ⟨p, 10, none⟩) hne _

theorem blk2 (w : World) (o1 : Obj) (cs : Array Value) (t : TypeId) : Blk ((w.alloc o1).alloc (.cells cs t)) (w.heap.size + 1) cs t := by
  have := Blk.new (w.alloc o1) cs t
  rw [World.size_alloc] at this
  exact this
theorem blk3 (w : World) (o1 o2 : Obj) (cs : Array Value) (t : TypeId) : Blk (((w.alloc o1).alloc o2).alloc (.cells cs t)) (w.heap.size + 2) cs t := by
  have := Blk.new ((w.alloc o1).alloc o2) cs t
  rw [World.size_alloc, World.size_alloc] at this
  exact this
theorem blk4 (w : World) (o1 o2 o3 : Obj) (cs : Array Value) (t : TypeId) : Blk ((((w.alloc o1).alloc o2).alloc o3).alloc (.cells cs t)) (w.heap.size + 3) cs t := by
  have := Blk.new (((w.alloc o1).alloc o2).alloc o3) cs t
  rw [World.size_alloc, World.size_alloc, World.size_alloc] at this
  exact this

/-- ext's four blocks: the reader, the packet, the results -/
structure X4 (w W : World) (b b1 b2 b3 : Nat) (rs : ByteArray) (re : Int) (cs : Array Value) : Prop where
  r : Blk W b #[.string rs, .int .i64 re] RR
  p : Blk W b1 cs QR
  zr : Blk W b2 #[.string ⟨#[]⟩, .int .i64 0] RR
  zp : Blk W b3 #[.bool false, .int .u8 0, .int .u16 0, .int .u32 0, .int .u32 0, .slice none 0 0, .bool false, .int .u16 0, .string ⟨#[]⟩, .string ⟨#[]⟩, .int .i64 0] QR
  n : New w W
  hb : w.heap.size ≤ b ∧ b < b1 ∧ b1 < b2 ∧ b2 < b3
theorem X4.new {w W W' : World} {b b1 b2 b3 : Nat} {rs : ByteArray} {re : Int} {cs : Array Value} (h : X4 w W b b1 b2 b3 rs re cs) (k : New W W') : X4 w W' b b1 b2 b3 rs re cs :=
  ⟨k.blk h.r (fun h => h), k.blk h.p (fun h => h), k.blk h.zr (fun h => h), k.blk h.zp (fun h => h), h.n.trans (k.mono (fun _ _ h => h.elim)), h.hb⟩
theorem X4.putr {w W : World} {b b1 b2 b3 : Nat} {rs : ByteArray} {re : Int} {cs : Array Value} (h : X4 w W b b1 b2 b3 rs re cs) (s : ByteArray) (e : Int) : X4 w (put2 W b s e) b b1 b2 b3 s e cs :=
  ⟨put2_blk h.r s e, put2_other h.p (by have := h.hb; omega) s e, put2_other h.zr (by have := h.hb; omega) s e, put2_other h.zp (by have := h.hb; omega) s e, put2_turns h.n (.inr h.hb.1) s e, h.hb⟩
theorem X4.set {w W : World} {b b1 b2 b3 : Nat} {rs : ByteArray} {re : Int} {cs : Array Value} (h : X4 w W b b1 b2 b3 rs re cs) (i : Nat) (x : Value) : X4 w (W.setCell ⟨b1, i, none⟩ x) b b1 b2 b3 rs re (cs.setIfInBounds i x) :=
  ⟨h.r.setOther (a := ⟨b1, i, none⟩) (show b1 ≠ b by have := h.hb; omega) x, h.p.set i x, h.zr.setOther (a := ⟨b1, i, none⟩) (show b1 ≠ b2 by have := h.hb; omega) x, h.zp.setOther (a := ⟨b1, i, none⟩) (show b1 ≠ b3 by have := h.hb; omega) x, h.n.setCell (p := ⟨b1, i, none⟩) (.inr (show w.heap.size ≤ b1 by have := h.hb; omega)) x, h.hb⟩

set_option maxRecDepth 100000 in
set_option maxHeartbeats 8000000 in
theorem rext (p : P) (a : Option Addr) (n c : Nat) (s : St) (w : World) (hok : Ok s) (hs : s.1.length ≤ 1500) :
    Calls Try.prog 54 #[.agg #[.string ⟨s.1.toArray⟩, .int .i64 s.2], .agg (pc p (.slice a n c))] w fun en w' => en = .returned (.tuple #[.agg #[.string ⟨(exS s).1.toArray⟩, .int .i64 (exS s).2], .agg (pc { p with prof := vn 2 s, data := lst (bn (exN s) (exS1 s)) } (.slice a n c))]) ∧ New w w' := by
  have hbnd : ∀ st : St, st.1.length ≤ 1500 → st.1.length ≤ 4611686018427387904 := fun _ h => by omega
  have T1 := Lib.hid (fun w => rtake_st s 2 w (by omega) (by omega) hok (hbnd _ hs))
  have T2 := Lib.hid (fun w => rtake_st (nx 2 s) 2 w (by omega) (by omega) (nx_ok 2 hok) (hbnd _ (Nat.le_trans (nx_len 2 s) hs)))
  have T3 := Lib.hid (fun w => rbytes_st (nx 2 (nx 2 s)) (exN s) w (nx_ok 2 (nx_ok 2 hok)) (hbnd _ (Nat.le_trans (nx_len 2 _) (Nat.le_trans (nx_len 2 s) hs))))
  have hb2 := vn_bd2 (nx 2 s)
  have hb1 := vn_bd2 s
  have hN : 4 * vn 2 (nx 2 s) = (exN s : Int) := by unfold exN; omega
  have HES : Hid (exS s = nx (exN s) (nx 2 (nx 2 s))) := Lib.hid rfl
  have HE1 : Hid (exS1 s = nx 2 (nx 2 s)) := Lib.hid rfl
  generalize exS s = ES at *
  generalize exS1 s = ES1 at *
  generalize exN s = N at *
  obtain ⟨mrk, typ, seq, time, ssrc, cs, ext, prof, data, pay, pad⟩ := p
  simp only [pc] at *
  rw [HES.out, HE1.out]
  clear HES HE1 hbnd hok hs
  have hX : X4 w ((((w.alloc (.cells #[.string ⟨s.1.toArray⟩, .int .i64 s.2] RR)).alloc (.cells #[.bool mrk, .int .u8 typ, .int .u16 seq, .int .u32 time, .int .u32 ssrc, .slice a n c, .bool ext, .int .u16 prof, .string data, .string pay, .int .i64 pad] QR)).alloc (.cells #[.string ⟨#[]⟩, .int .i64 0] RR)).alloc (.cells #[.bool false, .int .u8 0, .int .u16 0, .int .u32 0, .int .u32 0, .slice none 0 0, .bool false, .int .u16 0, .string ⟨#[]⟩, .string ⟨#[]⟩, .int .i64 0] QR)) w.heap.size (w.heap.size + 1) (w.heap.size + 1 + 1) (w.heap.size + 1 + 1 + 1) ⟨s.1.toArray⟩ s.2 #[.bool mrk, .int .u8 typ, .int .u16 seq, .int .u32 time, .int .u32 ssrc, .slice a n c, .bool ext, .int .u16 prof, .string data, .string pay, .int .i64 pad] := by
    exact ⟨(((Blk.new w _ _).alloc _).alloc _).alloc _, ((blk2 w _ _ _).alloc _).alloc _, (blk3 w _ _ _ _).alloc _, blk4 w _ _ _ _ _, ((((Turns.refl _ _).alloc _).alloc _).alloc _).alloc _, by omega⟩
  have HX := Lib.hid hX
  clear hX
  have n1 : w.heap.size ≠ w.heap.size + 1 := by omega
  have n2 : w.heap.size ≠ w.heap.size + 1 + 1 := by omega
  have n3 : w.heap.size ≠ w.heap.size + 1 + 1 + 1 := by omega
  have n4 : w.heap.size + 1 ≠ w.heap.size + 1 + 1 := by omega
  have n5 : w.heap.size + 1 ≠ w.heap.size + 1 + 1 + 1 := by omega
  have n6 : w.heap.size + 1 + 1 ≠ w.heap.size + 1 + 1 + 1 := by omega
  go_enter Try.func54, Try.ntmps54
  go_wp2_with fail
  generalize (((w.alloc (.cells #[.string ⟨s.1.toArray⟩, .int .i64 s.2] RR)).alloc (.cells #[.bool mrk, .int .u8 typ, .int .u16 seq, .int .u32 time, .int .u32 ssrc, .slice a n c, .bool ext, .int .u16 prof, .string data, .string pay, .int .i64 pad] QR)).alloc (.cells #[.string ⟨#[]⟩, .int .i64 0] RR)).alloc (.cells #[.bool false, .int .u8 0, .int .u16 0, .int .u32 0, .int .u32 0, .slice none 0 0, .bool false, .int .u16 0, .string ⟨#[]⟩, .string ⟨#[]⟩, .int .i64 0] QR) = w4 at *
  generalize w.heap.size + 1 + 1 + 1 = b3 at *
  generalize w.heap.size + 1 + 1 = b2 at *
  generalize w.heap.size + 1 = b1 at *
  obtain ⟨b, hbe⟩ : ∃ b, b = w.heap.size := ⟨_, rfl⟩
  rw [← hbe] at HX n1 n2 n3 ⊢
  clear hbe
  have n1' := n1.symm
  have n2' := n2.symm
  have n3' := n3.symm
  have n4' := n4.symm
  have n5' := n5.symm
  have n6' := n6.symm
  refine (T1.out _).mono ?_
  rintro e w5 ⟨rfl, hn5⟩
  have hx5 := HX.out.new hn5
  obtain ⟨c0, c1, f0, f1⟩ := cells2' hx5.r
  have HX5 := Lib.hid (hx5.putr ⟨(nx 2 s).1.toArray⟩ (nx 2 s).2)
  clear hx5 hn5 HX T1
  go_wp2_with fail
  refine (show Calls _ _ _ (put2 w5 b ⟨(nx 2 s).1.toArray⟩ (nx 2 s).2) _ from ?_)
  generalize put2 w5 b ⟨(nx 2 s).1.toArray⟩ (nx 2 s).2 = w6 at *
  clear c0 c1 f0 f1
  refine (T2.out _).mono ?_
  rintro e w7 ⟨rfl, hn7⟩
  have hx7 := HX5.out.new hn7
  obtain ⟨c0, c1, f0, f1⟩ := cells2' hx7.r
  have HX7 := Lib.hid (hx7.putr ⟨(nx 2 (nx 2 s)).1.toArray⟩ (nx 2 (nx 2 s)).2)
  clear hx7 hn7 HX5 T2
  go_wp2_with fail
  refine (show Calls _ _ _ (put2 w7 b ⟨(nx 2 (nx 2 s)).1.toArray⟩ (nx 2 (nx 2 s)).2) _ from ?_)
  generalize put2 w7 b ⟨(nx 2 (nx 2 s)).1.toArray⟩ (nx 2 (nx 2 s)).2 = w8 at *
  clear c0 c1 f0 f1
  refine (T3.out _).mono ?_
  rintro e w9 ⟨rfl, hn9⟩
  have hx9 := HX7.out.new hn9
  obtain ⟨c0, c1, f0, f1⟩ := cells2' hx9.r
  obtain ⟨d0, d1, d2, d3, d4, d5, d6, d7, d8, d9, d10⟩ := cells11 hx9.p
  obtain ⟨g0, g1, g2, g3, g4, g5, g6, g7, g8, g9, g10⟩ := frees11 hx9.p
  have HX9 := Lib.hid (((hx9.putr ⟨(nx N (nx 2 (nx 2 s))).1.toArray⟩ (nx N (nx 2 (nx 2 s))).2).set 7 (.int .u16 (vn 2 s))).set 8 (.string ⟨(bn N (nx 2 (nx 2 s))).toArray⟩))
  clear hx9 hn9 HX7 T3 hN hb2
  go_upto_region 6 with fail
  refine (show Code.wp _ _ _ _ (((put2 w9 b ⟨(nx N (nx 2 (nx 2 s))).1.toArray⟩ (nx N (nx 2 (nx 2 s))).2).setCell ⟨b1, 7, none⟩ (.int .u16 (vn 2 s))).setCell ⟨b1, 8, none⟩ (.string ⟨(bn N (nx 2 (nx 2 s))).toArray⟩)) from ?_)
  generalize ((put2 w9 b ⟨(nx N (nx 2 (nx 2 s))).1.toArray⟩ (nx N (nx 2 (nx 2 s))).2).setCell ⟨b1, 7, none⟩ (.int .u16 (vn 2 s))).setCell ⟨b1, 8, none⟩ (.string ⟨(bn N (nx 2 (nx 2 s))).toArray⟩) = wA at *
  clear c0 c1 f0 f1 d0 d1 d2 d3 d4 d5 d6 d7 d8 d9 d10 g0 g1 g2 g3 g4 g5 g6 g7 g8 g9 g10
  obtain ⟨hr, hp, hzr, hzp, hn, hb⟩ := HX9.out
  have hp' : Blk wA b1 #[.bool mrk, .int .u8 typ, .int .u16 seq, .int .u32 time, .int .u32 ssrc, .slice a n c, .bool ext, .int .u16 (vn 2 s), .string ⟨(bn N (nx 2 (nx 2 s))).toArray⟩, .string pay, .int .i64 pad] QR := hp
  obtain ⟨c0, c1, f0, f1⟩ := cells2' hr
  obtain ⟨d0, d1, d2, d3, d4, d5, d6, d7, d8, d9, d10⟩ := cells11 hp'
  obtain ⟨y0, y1, k0, k1⟩ := cells2' hzr
  obtain ⟨z0, z1, z2, z3, z4, z5, z6, z7, z8, z9, z10⟩ := cells11 hzp
  obtain ⟨g0, g1, g2, g3, g4, g5, g6, g7, g8, g9, g10⟩ := frees11 hzp
  have hA := put11_other (put2_blk hzr ⟨(nx N (nx 2 (nx 2 s))).1.toArray⟩ (nx N (nx 2 (nx 2 s))).2) n6' (.bool mrk) (.int .u8 typ) (.int .u16 seq) (.int .u32 time) (.int .u32 ssrc) (.slice a n c) (.bool ext) (.int .u16 (vn 2 s)) (.string ⟨(bn N (nx 2 (nx 2 s))).toArray⟩) (.string pay) (.int .i64 pad)
  have hB := put11_blk (put2_other hzp n6 ⟨(nx N (nx 2 (nx 2 s))).1.toArray⟩ (nx N (nx 2 (nx 2 s))).2) (.bool mrk) (.int .u8 typ) (.int .u16 seq) (.int .u32 time) (.int .u32 ssrc) (.slice a n c) (.bool ext) (.int .u16 (vn 2 s)) (.string ⟨(bn N (nx 2 (nx 2 s))).toArray⟩) (.string pay) (.int .i64 pad)
  have hC := put11_turns (put2_turns hn (.inr (show w.heap.size ≤ b2 by omega)) ⟨(nx N (nx 2 (nx 2 s))).1.toArray⟩ (nx N (nx 2 (nx 2 s))).2) (.inr (show w.heap.size ≤ b3 by omega)) (.bool mrk) (.int .u8 typ) (.int .u16 seq) (.int .u32 time) (.int .u32 ssrc) (.slice a n c) (.bool ext) (.int .u16 (vn 2 s)) (.string ⟨(bn N (nx 2 (nx 2 s))).toArray⟩) (.string pay) (.int .i64 pad)
  have hA' := put2_blk (put11_other hzr n6' (.bool mrk) (.int .u8 typ) (.int .u16 seq) (.int .u32 time) (.int .u32 ssrc) (.slice a n c) (.bool ext) (.int .u16 (vn 2 s)) (.string ⟨(bn N (nx 2 (nx 2 s))).toArray⟩) (.string pay) (.int .i64 pad)) ⟨(nx N (nx 2 (nx 2 s))).1.toArray⟩ (nx N (nx 2 (nx 2 s))).2
  have hB' := put2_other (put11_blk hzp (.bool mrk) (.int .u8 typ) (.int .u16 seq) (.int .u32 time) (.int .u32 ssrc) (.slice a n c) (.bool ext) (.int .u16 (vn 2 s)) (.string ⟨(bn N (nx 2 (nx 2 s))).toArray⟩) (.string pay) (.int .i64 pad)) n6 ⟨(nx N (nx 2 (nx 2 s))).1.toArray⟩ (nx N (nx 2 (nx 2 s))).2
  have hC' := put2_turns (put11_turns hn (.inr (show w.heap.size ≤ b3 by omega)) (.bool mrk) (.int .u8 typ) (.int .u16 seq) (.int .u32 time) (.int .u32 ssrc) (.slice a n c) (.bool ext) (.int .u16 (vn 2 s)) (.string ⟨(bn N (nx 2 (nx 2 s))).toArray⟩) (.string pay) (.int .i64 pad)) (.inr (show w.heap.size ≤ b2 by omega)) ⟨(nx N (nx 2 (nx 2 s))).1.toArray⟩ (nx N (nx 2 (nx 2 s))).2
  have H1 := Lib.hid (And.intro hA.drew (And.intro hB.drew hC.drew))
  have H2 := Lib.hid (And.intro hA'.drew (And.intro hB'.drew hC'.drew))
  clear hr hp hzr hzp hn hb hp' hA hB hC hA' hB' hC' HX9
  go_region
  all_goals
    go_wp2
    clear c0 c1 f0 f1 d0 d1 d2 d3 d4 d5 d6 d7 d8 d9 d10 y0 y1 k0 k1 z0 z1 z2 z3 z4 z5 z6 z7 z8 z9 z10 g0 g1 g2 g3 g4 g5 g6 g7 g8 g9 g10
    first
      | (refine (show bodyPost _ _ _ _ _ (World.drew (put11 (put2 wA b2 ⟨(nx N (nx 2 (nx 2 s))).1.toArray⟩ (nx N (nx 2 (nx 2 s))).2) b3 (.bool mrk) (.int .u8 typ) (.int .u16 seq) (.int .u32 time) (.int .u32 ssrc) (.slice a n c) (.bool ext) (.int .u16 (vn 2 s)) (.string ⟨(bn N (nx 2 (nx 2 s))).toArray⟩) (.string pay) (.int .i64 pad))) from ?_)
         generalize World.drew (put11 (put2 wA b2 ⟨(nx N (nx 2 (nx 2 s))).1.toArray⟩ (nx N (nx 2 (nx 2 s))).2) b3 (.bool mrk) (.int .u8 typ) (.int .u16 seq) (.int .u32 time) (.int .u32 ssrc) (.slice a n c) (.bool ext) (.int .u16 (vn 2 s)) (.string ⟨(bn N (nx 2 (nx 2 s))).toArray⟩) (.string pay) (.int .i64 pad)) = wE at *
         obtain ⟨y0, y1, k0, k1⟩ := cells2' H1.out.1
         obtain ⟨z0, z1, z2, z3, z4, z5, z6, z7, z8, z9, z10⟩ := cells11 H1.out.2.1
         exact bodyPost_ret (v := .tuple #[.agg #[.string ⟨(nx N (nx 2 (nx 2 s))).1.toArray⟩, .int .i64 (nx N (nx 2 (nx 2 s))).2], .agg #[.bool mrk, .int .u8 typ, .int .u16 seq, .int .u32 time, .int .u32 ssrc, .slice a n c, .bool ext, .int .u16 (vn 2 s), .string ⟨(bn N (nx 2 (nx 2 s))).toArray⟩, .string pay, .int .i64 pad]]) (by simp [results, Try.results54, go_sem, y0, y1, z0, z1, z2, z3, z4, z5, z6, z7, z8, z9, z10]) rfl ⟨rfl, H1.out.2.2⟩)
      | (refine (show bodyPost _ _ _ _ _ (World.drew (put2 (put11 wA b3 (.bool mrk) (.int .u8 typ) (.int .u16 seq) (.int .u32 time) (.int .u32 ssrc) (.slice a n c) (.bool ext) (.int .u16 (vn 2 s)) (.string ⟨(bn N (nx 2 (nx 2 s))).toArray⟩) (.string pay) (.int .i64 pad)) b2 ⟨(nx N (nx 2 (nx 2 s))).1.toArray⟩ (nx N (nx 2 (nx 2 s))).2)) from ?_)
         generalize World.drew (put2 (put11 wA b3 (.bool mrk) (.int .u8 typ) (.int .u16 seq) (.int .u32 time) (.int .u32 ssrc) (.slice a n c) (.bool ext) (.int .u16 (vn 2 s)) (.string ⟨(bn N (nx 2 (nx 2 s))).toArray⟩) (.string pay) (.int .i64 pad)) b2 ⟨(nx N (nx 2 (nx 2 s))).1.toArray⟩ (nx N (nx 2 (nx 2 s))).2) = wE at *
         obtain ⟨y0, y1, k0, k1⟩ := cells2' H2.out.1
         obtain ⟨z0, z1, z2, z3, z4, z5, z6, z7, z8, z9, z10⟩ := cells11 H2.out.2.1
         exact bodyPost_ret (v := .tuple #[.agg #[.string ⟨(nx N (nx 2 (nx 2 s))).1.toArray⟩, .int .i64 (nx N (nx 2 (nx 2 s))).2], .agg #[.bool mrk, .int .u8 typ, .int .u16 seq, .int .u32 time, .int .u32 ssrc, .slice a n c, .bool ext, .int .u16 (vn 2 s), .string ⟨(bn N (nx 2 (nx 2 s))).toArray⟩, .string pay, .int .i64 pad]]) (by simp [results, Try.results54, go_sem, y0, y1, z0, z1, z2, z3, z4, z5, z6, z7, z8, z9, z10]) rfl ⟨rfl, H2.out.2.2⟩)
end Go.Proofs.Ytkpmdaknojlkjaa.rp
