/-
  rtp: the reference's Parse.
-/
import Derived.Test.YtkpmdaknojlkjaaRpRefExt
import Derived.Test.YtkpmdaknojlkjaaRpCutMath
import Derived.Deep.AppendLies
namespace Go.Proofs.Ytkpmdaknojlkjaa.rp
open Go.RowKit mem rd wr oref sq
set_option linter.unusedVariables false

/-- in the middle of the reference's Parse: the result's block, the packet's, the reader's -/
structure MR (w W : World) (pd pr : Nat) (p : P) (v : Value) (s : St) : Prop where
  b : Blk W pd (pc p v) QR
  r : Blk W pr #[.string ⟨s.1.toArray⟩, .int .i64 s.2] RR
  z : Blk W w.heap.size #[.bool false, .int .u8 0, .int .u16 0, .int .u32 0, .int .u32 0, .slice none 0 0, .bool false, .int .u16 0, .string ⟨#[]⟩, .string ⟨#[]⟩, .int .i64 0] QR
  n : New w W
  o : W.ownsRow w.heap.size U4 1 v p.cs.length (p.cs.map (Value.int .u32))
  hr : w.heap.size < pr
  hd : w.heap.size < pd
  hne : pd ≠ pr
  v1 : v.ownBlock ≠ some pd
  v2 : v.ownBlock ≠ some pr
  v3 : v.ownBlock ≠ some w.heap.size
theorem MR.new {w W W' : World} {pd pr : Nat} {p : P} {v : Value} {s : St} (h : MR w W pd pr p v s) (k : New W W') : MR w W' pd pr p v s :=
  ⟨k.blk h.b (fun h => h), k.blk h.r (fun h => h), k.blk h.z (fun h => h), h.n.trans (k.mono (fun _ _ h => h.elim)), own_turns h.o k (fun _ _ h => h), h.hr, h.hd, h.hne, h.v1, h.v2, h.v3⟩
theorem MR.putr {w W : World} {pd pr : Nat} {p : P} {v : Value} {s : St} (h : MR w W pd pr p v s) (s' : St) : MR w (put2 W pr ⟨s'.1.toArray⟩ s'.2) pd pr p v s' :=
  ⟨put2_other h.b h.hne.symm _ _, put2_blk h.r _ _, put2_other h.z (by have := h.hr; omega) _ _, put2_turns h.n (.inr (Nat.le_of_lt h.hr)) _ _, own_turns h.o (put2_turns (Turns.refl (· = pr) W) (.inl rfl) _ _) (fun g hg hk => h.v2 (by rw [hg, hk])), h.hr, h.hd, h.hne, h.v1, h.v2, h.v3⟩
theorem MR.put {w W : World} {pd pr : Nat} {p p' : P} {v : Value} {s : St} (h : MR w W pd pr p v s) (i : Nat) (x : Value) (k : Blk (W.setCell ⟨pd, i, none⟩ x) pd (pc p' v) QR) (hc : p'.cs = p.cs) : MR w (W.setCell ⟨pd, i, none⟩ x) pd pr p' v s :=
  ⟨k, h.r.setOther (a := ⟨pd, i, none⟩) h.hne x, h.z.setOther (a := ⟨pd, i, none⟩) (show pd ≠ w.heap.size by have := h.hd; omega) x, h.n.setCell (p := ⟨pd, i, none⟩) (.inr (Nat.le_of_lt h.hd)) x, by rw [hc]; exact own_turns h.o ((Turns.refl (· = pd) W).setCell (p := ⟨pd, i, none⟩) (.inl rfl) x) (fun g hg hk => h.v1 (by rw [hg, hk])), h.hr, h.hd, h.hne, h.v1, h.v2, h.v3⟩
theorem MR.putp {w W : World} {pd pr : Nat} {p p' : P} {v : Value} {s : St} (h : MR w W pd pr p v s) (hc : p'.cs = p.cs) : MR w (put11 W pd (.bool p'.mrk) (.int .u8 p'.typ) (.int .u16 p'.seq) (.int .u32 p'.time) (.int .u32 p'.ssrc) v (.bool p'.ext) (.int .u16 p'.prof) (.string p'.data) (.string p'.pay) (.int .i64 p'.pad)) pd pr p' v s := by
  have hb : Blk W pd #[.bool p.mrk, .int .u8 p.typ, .int .u16 p.seq, .int .u32 p.time, .int .u32 p.ssrc, v, .bool p.ext, .int .u16 p.prof, .string p.data, .string p.pay, .int .i64 p.pad] QR := h.b
  exact ⟨put11_blk hb _ _ _ _ _ _ _ _ _ _ _, put11_other h.r h.hne _ _ _ _ _ _ _ _ _ _ _, put11_other h.z (by have := h.hd; omega) _ _ _ _ _ _ _ _ _ _ _, put11_turns h.n (.inr (Nat.le_of_lt h.hd)) _ _ _ _ _ _ _ _ _ _ _,
    by rw [hc]; exact own_turns h.o (put11_turns (Turns.refl (· = pd) W) (.inl rfl) _ _ _ _ _ _ _ _ _ _ _) (fun g hg hk => h.v1 (by rw [hg, hk])), h.hr, h.hd, h.hne, h.v1, h.v2, h.v3⟩
theorem MR.append {w W W1 : World} {pd pr : Nat} {p : P} {v v' : Value} {s : St} {x : Int} (h : MR w W pd pr p v s) {WA : World} (hA : New W WA)
    (ho : W1.ownsRow w.heap.size U4 1 v' (p.cs.length + 1) ((p.cs.map (Value.int .u32)) ++ [.int .u32 x])) (hg : WA.grownBy W1 v.ownBlock) (hat : v'.ownBlock = v.ownBlock ∨ ∃ g, v'.ownBlock = some g ∧ W.heap.size ≤ g) :
    MR w (W1.setCell ⟨pd, 5, none⟩ v') pd pr { p with cs := p.cs ++ [x] } v' s := by
  have hpd := h.b.lt
  have hpr := h.r.lt
  have hz := h.z.lt
  have t1 : Turns (fun k => some k = v.ownBlock) W W1 := (hA.mono (fun _ _ h => h.elim)).trans ((Turns.of_grown hg).mono (fun _ _ h => .inl h))
  have b1 : Blk W1 pd (pc p v) QR := t1.blk h.b (fun e => h.v1 e.symm)
  have r1 := t1.blk h.r (fun e => h.v2 e.symm)
  have z1 := t1.blk h.z (fun e => h.v3 e.symm)
  have v1' : v'.ownBlock ≠ some pd := by
    rcases hat with e | ⟨g, e, hge⟩
    · rw [e]; exact h.v1
    · rw [e]; intro e2; injection e2 with e2; omega
  have v2' : v'.ownBlock ≠ some pr := by
    rcases hat with e | ⟨g, e, hge⟩
    · rw [e]; exact h.v2
    · rw [e]; intro e2; injection e2 with e2; omega
  have v3' : v'.ownBlock ≠ some w.heap.size := by
    rcases hat with e | ⟨g, e, hge⟩
    · rw [e]; exact h.v3
    · rw [e]; intro e2; injection e2 with e2; omega
  refine ⟨ps5 b1 v', r1.setOther (a := ⟨pd, 5, none⟩) h.hne v', z1.setOther (a := ⟨pd, 5, none⟩) (show pd ≠ w.heap.size by have := h.hd; omega) v', ?_, ?_, h.hr, h.hd, h.hne, v1', v2', v3'⟩
  · refine (h.n.trans (t1.mono (fun k hk e => ?_))).setCell (.inr (show w.heap.size ≤ pd from Nat.le_of_lt h.hd)) v'
    right
    rcases h.o.2 with ⟨rfl, _⟩ | ⟨g, cap, cur, rfl, hb, _⟩
    · cases e
    · have : k = g := by injection e
      omega
  · have := ownsRow_setCell_other ho (show v'.ownBlock ≠ some (Addr.block ⟨pd, 5, none⟩) from v1') v'
    simp only [List.length_append, List.length_cons, List.length_nil, List.map_append, List.map_cons, List.map_nil]
    exact this

theorem err_it {s : St} (h : s.2 ≠ 0) (n : Nat) : (it s n).2 = s.2 := by
  induction n with
  | zero => rfl
  | succ n ih => show (nx 4 (it s n)).2 = s.2; rw [nx_err 4 (by rw [ih]; exact h), ih]
theorem err_body (a : Int) {s : St} (h : s.2 ≠ 0) : bodyE a s = s.2 := by
  have e1 : (hdS s (a % 16).toNat).2 = s.2 := by
    unfold hdS
    have h1 := nx_err 2 h
    have h2 : (nx 4 (nx 2 s)).2 = s.2 := by rw [nx_err 4 (by rw [h1]; exact h), h1]
    have h3 : (nx 4 (nx 4 (nx 2 s))).2 = s.2 := by rw [nx_err 4 (by rw [h2]; exact h), h2]
    rw [err_it (by rw [h3]; exact h), h3]
  have e2 : (xtS a (hdS s (a % 16).toNat)).2 = s.2 := by
    unfold xtS
    split
    · unfold exS exS1
      have h1 : (nx 2 (hdS s (a % 16).toNat)).2 = s.2 := by rw [nx_err 2 (by rw [e1]; exact h), e1]
      have h2 : (nx 2 (nx 2 (hdS s (a % 16).toNat))).2 = s.2 := by rw [nx_err 2 (by rw [h1]; exact h), h1]
      rw [nx_err _ (by rw [h2]; exact h), h2]
    · exact e1
  unfold bodyE pyE
  split
  · unfold fl; rw [if_neg (fun hh => h (by rw [← e2]; exact hh.1))]; exact e2
  · exact e2

theorem short_E (l : List UInt8) (h : l.length < 2) : outE l = 1 := by
  have e : (nx 1 (nx 1 (l, (0 : Int)))).2 = 1 := by
    match l, h with
    | [], _ => rfl
    | [u], _ => rw [nx_cons]; rfl
  unfold outE
  rw [if_neg (by omega)]
  unfold allE
  rw [err_body _ (by rw [one_vr e]; decide), one_vr e]
theorem ver_E (u v : UInt8) (r : List UInt8) (hl : (u :: v :: r).length ≤ 1500) (h : (u.toNat : Int) / 64 ≠ 2) : outE (u :: v :: r) = 2 := by
  have e : vr (u :: v :: r, (0 : Int)) = ([], 2) := by
    unfold vr
    rw [vn_cons, if_neg h, nx_cons, nx_cons]
    unfold fl
    rw [if_pos ⟨rfl, by decide⟩]
  unfold outE
  rw [if_neg (by omega)]
  unfold allE
  rw [e, err_body _ (by decide)]
theorem ok_E (u v : UInt8) (r : List UInt8) (hl : (u :: v :: r).length ≤ 1500) (h : (u.toNat : Int) / 64 = 2) : outE (u :: v :: r) = bodyE u.toNat (r, 0) ∧ outP (u :: v :: r) = if outE (u :: v :: r) = 0 then bodyP u.toNat v.toNat (r, 0) else zero := by
  have e : vr (u :: v :: r, (0 : Int)) = (r, 0) := by
    unfold vr
    rw [vn_cons, if_pos h, nx_cons, nx_cons]
  refine ⟨?_, ?_⟩
  · unfold outE
    rw [if_neg (by omega)]
    unfold allE
    rw [e, vn_cons]
  · unfold outP allP
    rw [e, nx_cons, vn_cons, vn_cons]

set_option maxHeartbeats 4000000 in
theorem rparse_big (s0 : ByteArray) (w : World) (hs : s0.size ≤ 4611686018427387904) (hb : 1500 < s0.size) :
    Calls Try.prog 24 #[.string s0] w fun en w' => en = .returned (.tuple #[.agg (pc zero (.slice none 0 0)), .int .i64 4]) ∧ New w w' := by
  have hb' : (1500 : Int) < (s0.size : Int) := by omega
  go_enter Try.func24, Try.ntmps24
  go_wp2
  go_returns
  exact ⟨rfl, (Turns.refl _ _).alloc _⟩
set_option maxHeartbeats 4000000 in
theorem rparse_short (s0 : ByteArray) (w : World) (hb : s0.size < 2) :
    Calls Try.prog 24 #[.string s0] w fun en w' => en = .returned (.tuple #[.agg (pc zero (.slice none 0 0)), .int .i64 1]) ∧ New w w' := by
  have hb' : ¬ (1500 : Int) < (s0.size : Int) := by omega
  have hb2 : (s0.size : Int) < 2 := by omega
  go_enter Try.func24, Try.ntmps24
  go_wp2
  go_returns
  exact ⟨rfl, (Turns.refl _ _).alloc _⟩
set_option maxHeartbeats 4000000 in
theorem rparse_ver (s0 : ByteArray) (w : World) (hs : s0.size ≤ 1500) (h2 : 2 ≤ s0.size) (hv : bt s0 0 / 64 ≠ 2) :
    Calls Try.prog 24 #[.string s0] w fun en w' => en = .returned (.tuple #[.agg (pc zero (.slice none 0 0)), .int .i64 2]) ∧ New w w' := by
  have hb' : ¬ (1500 : Int) < (s0.size : Int) := by omega
  have hb2 : ¬ (s0.size : Int) < 2 := by omega
  have h0 : 0 < s0.size := by omega
  have hi0 := bt_is s0 0 h0
  obtain ⟨ha0, ha1⟩ := bt_bd s0 0
  have hv' : (bt s0 0 / 64 != 2) = true := by simp [hv]
  generalize bt s0 0 = a at *
  clear hv
  go_enter Try.func24, Try.ntmps24
  go_wp2
  go_returns
  exact ⟨rfl, (Turns.refl _ _).alloc _⟩

set_option maxRecDepth 100000 in
set_option maxHeartbeats 8000000 in
theorem rparse_main (u0 u1 : UInt8) (r0 : List UInt8) (s0 : ByteArray) (hs0 : s0 = ⟨(u0 :: u1 :: r0).toArray⟩) (w : World) (hs : s0.size ≤ 1500) (hv : (u0.toNat : Int) / 64 = 2) :
    Calls Try.prog 24 #[.string s0] w fun en w' => ∃ v, en = .returned (.tuple #[.agg (pc (outP (u0 :: u1 :: r0)) v), .int .i64 (outE (u0 :: u1 :: r0))]) ∧ New w w' ∧ w'.ownsRow w.heap.size U4 1 v (outP (u0 :: u1 :: r0)).cs.length ((outP (u0 :: u1 :: r0)).cs.map (Value.int .u32)) := by
  have hsz : s0.size = r0.length + 2 := by rw [hs0, size_mk]; rfl
  obtain ⟨HE0, HP0⟩ := ok_E u0 u1 r0 (by rw [List.length_cons, List.length_cons]; omega) hv
  have g0 : 0 < s0.size := by omega
  have g1 : 1 < s0.size := by omega
  have hi0 := bt_is s0 0 g0
  have hi1 := bt_is s0 1 g1
  have ea : bt s0 0 = (u0.toNat : Int) := by rw [hs0]; rfl
  have eb : bt s0 1 = (u1.toNat : Int) := by rw [hs0]; rfl
  rw [ea] at hi0
  rw [eb] at hi1
  have ex : s0.extract 2 s0.size = ⟨r0.toArray⟩ := by
    rw [hs0, size_mk, extract_mk]
    simp
  have hab := u0.toNat_lt
  have hbb := u1.toNat_lt
  obtain ⟨a, hae⟩ : ∃ x : Int, x = (u0.toNat : Int) := ⟨_, rfl⟩
  obtain ⟨b, hbe⟩ : ∃ x : Int, x = (u1.toNat : Int) := ⟨_, rfl⟩
  have ha0 : 0 ≤ a := by omega
  have ha1 : a ≤ 255 := by omega
  have hb0 : 0 ≤ b := by omega
  have hb1 : b ≤ 255 := by omega
  rw [← hae] at hi0 HE0 HP0 hv
  rw [← hbe] at hi1 HP0
  clear hae hbe ea eb hab hbb
  obtain ⟨s, hse⟩ : ∃ x : St, x = (r0, (0 : Int)) := ⟨_, rfl⟩
  rw [← hse] at HE0 HP0
  have HE := Lib.hid HE0
  have HP := Lib.hid HP0
  clear HE0 HP0
  have hok : Ok s := by rw [hse]; simp [Ok]
  have hsl : s.1.length ≤ 1500 := by rw [hse]; simp only; omega
  have e1 : (⟨s.1.toArray⟩ : ByteArray) = s0.extract 2 s0.size := by rw [hse, ex]
  have e2 : s.2 = 0 := by rw [hse]
  generalize u0 :: u1 :: r0 = l at *
  clear hse ex hs0
  have hbnd : ∀ st : St, st.1.length ≤ 1500 → st.1.length ≤ 4611686018427387904 := fun _ h => by omega
  have T1 := Lib.hid (fun w => rtake_st s 2 w (by omega) (by omega) hok (hbnd _ hsl))
  simp only [e1, e2] at T1
  clear e1 e2
  have hok1 := nx_ok 2 hok
  have hl1 := Nat.le_trans (nx_len 2 s) hsl
  have T2 := Lib.hid (fun w => rtake_st (nx 2 s) 4 w (by omega) (by omega) hok1 (hbnd _ hl1))
  have hok2 := nx_ok 4 hok1
  have hl2 := Nat.le_trans (nx_len 4 (nx 2 s)) hl1
  have T3 := Lib.hid (fun w => rtake_st (nx 4 (nx 2 s)) 4 w (by omega) (by omega) hok2 (hbnd _ hl2))
  have hok3 := nx_ok 4 hok2
  have hl3 := Nat.le_trans (nx_len 4 (nx 4 (nx 2 s))) hl2
  have HOK := Lib.hid (fun k => it_ok hok3 k)
  have HLN := Lib.hid (fun k => Nat.le_trans (it_len (nx 4 (nx 4 (nx 2 s))) k) hl3)
  obtain ⟨q10, q11⟩ := vn_bd2 s
  obtain ⟨q20, q21⟩ := vn_bd4 (nx 2 s)
  obtain ⟨q30, q31⟩ := vn_bd4 (nx 4 (nx 2 s))
  have HD0 : Hid (hdP b s 0 = { zero with mrk := vp.b128 b, typ := b % 128, seq := vn 2 s, time := vn 4 (nx 2 s), ssrc := vn 4 (nx 4 (nx 2 s)) }) := Lib.hid rfl
  have HS0 : Hid (hdS s 0 = nx 4 (nx 4 (nx 2 s))) := Lib.hid rfl
  have HHS : Hid (∀ k, hdS s k = it (nx 4 (nx 4 (nx 2 s))) k) := Lib.hid (fun k => rfl)
  have hmk : (b / 128 == 1) = vp.b128 b := by
    rw [vp.b128_is b hb0 hb1, Bool.eq_iff_iff]; simp; omega
  have hv' : (a / 64 != 2) = false := by simp [hv]
  have hc1 : ¬ (1500 : Int) < (s0.size : Int) := by omega
  have hc2 : ¬ (s0.size : Int) < 2 := by omega
  have hc3 : 2 ≤ s0.size := by omega
  clear hv hok hsl hok1 hl1 hok2 hl2 hok3 hl3 hsz
  go_enter Try.func24, Try.ntmps24
  go_wp2_with fail
  refine (T1.out _).mono ?_
  rintro e w1 ⟨rfl, hn1⟩
  have hz1 := hn1.blk (Blk.new w #[.bool false, .int .u8 0, .int .u16 0, .int .u32 0, .int .u32 0, .slice none 0 0, .bool false, .int .u16 0, .string ⟨#[]⟩, .string ⟨#[]⟩, .int .i64 0] QR) (fun h => h)
  have hw1 : New w w1 := ((Turns.refl _ w).alloc (.cells #[.bool false, .int .u8 0, .int .u16 0, .int .u32 0, .int .u32 0, .slice none 0 0, .bool false, .int .u16 0, .string ⟨#[]⟩, .string ⟨#[]⟩, .int .i64 0] QR)).trans (hn1.mono (fun _ _ h => h.elim))
  have H2 := Lib.hid (And.intro (Blk.new w1 #[.string ⟨(nx 2 s).1.toArray⟩, .int .i64 (nx 2 s).2] RR) (And.intro (hz1.alloc (.cells #[.string ⟨(nx 2 s).1.toArray⟩, .int .i64 (nx 2 s).2] RR)) (And.intro (hw1.alloc (.cells #[.string ⟨(nx 2 s).1.toArray⟩, .int .i64 (nx 2 s).2] RR)) hz1.lt)))
  clear hn1 hz1 hw1 T1
  go_wp2_with fail
  generalize w1.alloc (.cells #[.string ⟨(nx 2 s).1.toArray⟩, .int .i64 (nx 2 s).2] RR) = w2 at *
  generalize w1.heap.size = pr at *
  refine (T2.out _).mono ?_
  rintro e w3 ⟨rfl, hn3⟩
  have hr3 := hn3.blk H2.out.1 (fun h => h)
  have hz3 := hn3.blk H2.out.2.1 (fun h => h)
  have hw3 := H2.out.2.2.1.trans (hn3.mono (fun _ _ h => h.elim))
  have hpr := H2.out.2.2.2
  have hprz : pr ≠ w.heap.size := by omega
  obtain ⟨c0, c1, f0, f1⟩ := cells2' hr3
  have H3 := Lib.hid (And.intro (put2_blk hr3 ⟨(nx 4 (nx 2 s)).1.toArray⟩ (nx 4 (nx 2 s)).2) (And.intro (put2_other hz3 hprz ⟨(nx 4 (nx 2 s)).1.toArray⟩ (nx 4 (nx 2 s)).2) (put2_turns hw3 (.inr (Nat.le_of_lt hpr)) ⟨(nx 4 (nx 2 s)).1.toArray⟩ (nx 4 (nx 2 s)).2)))
  clear hn3 hr3 hz3 hw3 H2 T2
  go_wp2_with fail
  refine (show Calls _ _ _ (put2 w3 pr ⟨(nx 4 (nx 2 s)).1.toArray⟩ (nx 4 (nx 2 s)).2) _ from ?_)
  generalize put2 w3 pr ⟨(nx 4 (nx 2 s)).1.toArray⟩ (nx 4 (nx 2 s)).2 = w4 at *
  clear c0 c1 f0 f1
  refine (T3.out _).mono ?_
  rintro e w5 ⟨rfl, hn5⟩
  have hr5 := hn5.blk H3.out.1 (fun h => h)
  have hz5 := hn5.blk H3.out.2.1 (fun h => h)
  have hw5 := H3.out.2.2.trans (hn5.mono (fun _ _ h => h.elim))
  obtain ⟨c0, c1, f0, f1⟩ := cells2' hr5
  have H5 := Lib.hid (And.intro (put2_blk hr5 ⟨(nx 4 (nx 4 (nx 2 s))).1.toArray⟩ (nx 4 (nx 4 (nx 2 s))).2) (And.intro (put2_other hz5 hprz ⟨(nx 4 (nx 4 (nx 2 s))).1.toArray⟩ (nx 4 (nx 4 (nx 2 s))).2) (put2_turns hw5 (.inr (Nat.le_of_lt hpr)) ⟨(nx 4 (nx 4 (nx 2 s))).1.toArray⟩ (nx 4 (nx 4 (nx 2 s))).2)))
  clear hn5 hr5 hz5 hw5 H3 T3
  go_upto_region 10 with fail
  refine (show Code.wp _ _ _ _ (put2 w5 pr ⟨(nx 4 (nx 4 (nx 2 s))).1.toArray⟩ (nx 4 (nx 4 (nx 2 s))).2) from ?_)
  generalize put2 w5 pr ⟨(nx 4 (nx 4 (nx 2 s))).1.toArray⟩ (nx 4 (nx 4 (nx 2 s))).2 = w6 at *
  clear c0 c1 f0 f1
  go_cut [8] (fun v wx => ∃ pd, v = .pointer (some ⟨pd, 0, none⟩) ∧ MR w wx pd pr (hdP b s 0) (.slice none 0 0) (hdS s 0))
  case first =>
    have s1 : IntKind.u16.wrap (vn 2 s) = vn 2 s := by rw [IntKind.wrap_u16]; omega
    have s2 : IntKind.u32.wrap (vn 4 (nx 2 s)) = vn 4 (nx 2 s) := by rw [IntKind.wrap_u32]; omega
    have s3 : IntKind.u32.wrap (vn 4 (nx 4 (nx 2 s))) = vn 4 (nx 4 (nx 2 s)) := by rw [IntKind.wrap_u32]; omega
    go_region
    all_goals
      go_wp2_with fail
      go_meet
      case rel =>
        refine ⟨_, rfl, ?_⟩
        have hlt := H5.out.1.lt
        rw [HD0.out, HS0.out]
        exact ⟨(Blk.new w6 _ _), H5.out.1.alloc _, H5.out.2.1.alloc _, (H5.out.2.2.alloc _).drew, World.ownsRow_nil _ _ _ _, hpr, H5.out.2.1.lt, by omega, by simp [Value.ownBlock], by simp [Value.ownBlock], by simp [Value.ownBlock]⟩
  case rest =>
    obtain ⟨pd, rfl, hm0⟩ := hcut
    clear H5 HD0 HS0 q10 q11 q20 q21 q30 q31 hmk
    have HM0 := Lib.hid hm0
    clear hm0
    obtain ⟨N, hN, hN2⟩ : ∃ N : Nat, a % 16 = (N : Int) ∧ N ≤ 15 := ⟨(a % 16).toNat, by omega, by omega⟩
    go_wp2_with fail
    obtain ⟨i0, hi, hz0, hz1, hz2⟩ := info_parts info4
    go_loopw [9] (fun j wr => ∃ k : Nat, k ≤ N ∧ j = .int .i64 k ∧ ∃ v, MR w wr pd pr (hdP b s k) v (hdS s k)) (fun j _ => N - (intOf j).toNat)
    case atStart => exact ⟨0, Nat.zero_le _, rfl, _, HM0.out⟩
    case round =>
      clear HM0
      obtain ⟨k, hk, rfl, v, hm⟩ := hrel
      have HK := Lib.hid hm
      have hsk : Ok (hdS s k) := by rw [HHS.out]; exact HOK.out k
      have hlk : (hdS s k).1.length ≤ 1500 := by rw [HHS.out]; exact HLN.out k
      by_cases hlt : k < N
      · have hx := vn_bd4 (hdS s k)
        obtain ⟨hx0, hx1⟩ := hx
        have hcl := hdP_len b s k
        have hlt' : (k : Int) < (N : Int) := by omega
        have TK := Lib.hid (fun w => rtake_st (hdS s k) 4 w (by omega) (by omega) hsk (hbnd _ hlk))
        have HS1 := Lib.hid (hdP_succ b s k)
        have HS2 : Hid (hdS s (k + 1) = nx 4 (hdS s k)) := Lib.hid (hdS_succ s k)
        have HCL := Lib.hid hcl
        clear hcl hsk hlk HHS
        obtain ⟨c0, c1, f0, f1⟩ := cells2' hm.r
        clear hm
        generalize hdS s k = sk at *
        go_wp2_with fail
        refine (TK.out _).mono ?_
        rintro e w7 ⟨rfl, hn7⟩
        have m7 := HK.out.new hn7
        clear c0 c1 f0 f1 HK hn7 TK
        obtain ⟨c0, c1, f0, f1⟩ := cells2' m7.r
        have hlt7 := m7.r.lt
        have hne7 : w7.heap.size ≠ pr := by omega
        have m8 := (m7.putr (nx 4 sk)).new ((Turns.refl (fun _ => False) (put2 w7 pr ⟨(nx 4 sk).1.toArray⟩ (nx 4 sk).2)).alloc (.cells #[.string ⟨(nx 4 sk).1.toArray⟩, .int .i64 (nx 4 sk).2] RR))
        have M8 := Lib.hid m8
        clear m8 m7
        go_upto_region 16 with fail
        refine (show Code.wp _ _ _ _ ((put2 w7 pr ⟨(nx 4 sk).1.toArray⟩ (nx 4 sk).2).alloc (.cells #[.string ⟨(nx 4 sk).1.toArray⟩, .int .i64 (nx 4 sk).2] RR)) from ?_)
        generalize (put2 w7 pr ⟨(nx 4 sk).1.toArray⟩ (nx 4 sk).2).alloc (.cells #[.string ⟨(nx 4 sk).1.toArray⟩, .int .i64 (nx 4 sk).2] RR) = w8 at *
        clear c0 c1 f0 f1 hlt7 hne7
        have s3 : IntKind.u32.wrap (vn 4 sk) = vn 4 sk := by rw [IntKind.wrap_u32]; omega
        have c5 := pc5 M8.out.b
        have hpd8 := M8.out.b.lt
        generalize vn 4 sk = x at *
        go_wp2_with (at_builtin; refine wpList_append_lies _ rfl _ _ 42 rfl w.heap.size U4 i0 (.int .u32 0) 1 4 Try.underlying42 hi hz0 hz1 hz2 rfl (by decide) v _ _ rfl (M8.out.o.alloc _) ⟨w8.heap.size, 0, none⟩ 1 1 [.int .u32 x] rfl rfl (World.news_of_block (cs := #[.int .u32 x]) (t := U4) (fr := (0, 0)) (heap_alloc_new w8 _)) (by simp [Value.oneCell']) (by omega) (by rw [HCL.out]; unfold maxLen; omega) (by rw [HCL.out]; omega) (by have := M8.out.hd; simp; omega) (w8.heap.size + 1) (by simp) ?_; intro g cap w1' hown hgrow hat hlt2; have hd1 : w1'.cell? ⟨pd, 5, none⟩ = some v := (hgrow.cell_far ⟨pd, 5, none⟩ (by simp; omega) (fun h => M8.out.v1 h.symm)).trans ((World.cell?_alloc_past _ _ _ hpd8).trans c5); have hf1 : w1'.frozen? ⟨pd, 5, none⟩ = false := (hgrow.frozen_far ⟨pd, 5, none⟩ (by simp; omega) (fun h => M8.out.v1 h.symm)).trans ((World.frozen?_alloc_past _ _ _ hpd8).trans (M8.out.b.free 5)); have R := Lib.hid (M8.out.append ((Turns.refl (fun _ => False) w8).alloc (.cells #[.int .u32 x] U4)) hown hgrow (by rcases hat with h | h; exact .inl h.symm; exact .inr ⟨g, rfl, by omega⟩)); rw [← HS1.out, ← HS2.out] at R; clear hown hgrow hat hlt2)
        go_roundw
        case rel => exact ⟨k + 1, by omega, by go_num, _, R.out⟩
        case measure => simp [intOf]; omega
      · obtain rfl : k = N := by omega
        clear hk hlt hm
        have hlt' : ¬ ((k : Int) < (k : Int)) := by omega
        have HXT : Hid (bodyP a b s = pyP a (xtP a (hdP b s k) (hdS s k)) (xtS a (hdS s k))) := Lib.hid (by unfold bodyP; rw [hN]; rfl)
        have HXE : Hid (bodyE a s = pyE a (xtS a (hdS s k))) := Lib.hid (by unfold bodyE; rw [hN]; rfl)
        clear HHS HOK HLN
        generalize hdP b s k = p1 at *
        generalize hdS s k = s1 at *
        obtain ⟨nv, hnv⟩ : ∃ n, n = p1.cs.length := ⟨_, rfl⟩
        obtain ⟨av, cv, hvv⟩ := own_shape HK.out.o
        rw [← hnv] at hvv
        subst hvv
        have HNV := Lib.hid hnv
        clear hnv
        go_upto_if 84 with fail
        go_cut [] (fun wx => MR w wx pd pr (xtP a p1 s1) (.slice av nv cv) (xtS a s1))
        case first =>
          by_cases h : a / 16 % 2 = 1
          · have h16 : (a / 16 % 2 == 1) = true := by simp [h]
            have hxp : xtP a p1 s1 = exP p1 s1 := by unfold xtP; rw [if_pos h]
            have hxs : xtS a s1 = exS s1 := by unfold xtS; rw [if_pos h]
            have HX := Lib.hid (And.intro hxp hxs)
            have TX := Lib.hid (fun w => rext p1 av nv cv s1 w hsk hlk)
            have HEP : Hid (exP p1 s1 = { p1 with ext := true, prof := vn 2 s1, data := lst (bn (exN s1) (exS1 s1)) }) := Lib.hid rfl
            obtain ⟨p2, hp2⟩ : ∃ p2 : P, p2 = { p1 with prof := vn 2 s1, data := lst (bn (exN s1) (exS1 s1)) } := ⟨_, rfl⟩
            have hp3 : exP p1 s1 = { p2 with ext := true } := by rw [hp2]; rfl
            have hp4 : p2.cs = p1.cs := by rw [hp2]
            rw [← hp2] at TX
            have HP3 := Lib.hid (And.intro hp3 hp4)
            clear h hxp hxs HEP hp3 hp4 hp2 hsk hlk
            have hb1' : Blk wr pd #[.bool p1.mrk, .int .u8 p1.typ, .int .u16 p1.seq, .int .u32 p1.time, .int .u32 p1.ssrc, .slice av nv cv, .bool p1.ext, .int .u16 p1.prof, .string p1.data, .string p1.pay, .int .i64 p1.pad] QR := HK.out.b
            obtain ⟨d0, d1, d2, d3, d4, d5, d6, d7, d8, d9, d10⟩ := cells11 hb1'
            obtain ⟨c0, c1, f0, f1⟩ := cells2' HK.out.r
            clear hb1'
            simp only [pc] at TX
            go_wp2_with fail
            refine (TX.out _).mono ?_
            rintro e w9 ⟨rfl, hn9⟩
            have m9 := HK.out.new hn9
            have k10 : New w9 ((w9.alloc (.cells #[.string ⟨(exS s1).1.toArray⟩, .int .i64 (exS s1).2] RR)).alloc (.cells #[.bool p2.mrk, .int .u8 p2.typ, .int .u16 p2.seq, .int .u32 p2.time, .int .u32 p2.ssrc, .slice av nv cv, .bool p2.ext, .int .u16 p2.prof, .string p2.data, .string p2.pay, .int .i64 p2.pad] QR)) := ((Turns.refl _ _).alloc _).alloc _
            have m10 := m9.new k10
            have q12 := (Blk.new w9 #[.string ⟨(exS s1).1.toArray⟩, .int .i64 (exS s1).2] RR).alloc (.cells #[.bool p2.mrk, .int .u8 p2.typ, .int .u16 p2.seq, .int .u32 p2.time, .int .u32 p2.ssrc, .slice av nv cv, .bool p2.ext, .int .u16 p2.prof, .string p2.data, .string p2.pay, .int .i64 p2.pad] QR)
            have q13 := blk2 w9 (.cells #[.string ⟨(exS s1).1.toArray⟩, .int .i64 (exS s1).2] RR) #[.bool p2.mrk, .int .u8 p2.typ, .int .u16 p2.seq, .int .u32 p2.time, .int .u32 p2.ssrc, .slice av nv cv, .bool p2.ext, .int .u16 p2.prof, .string p2.data, .string p2.pay, .int .i64 p2.pad] QR
            have hl1 := m9.b.lt
            have hl2 := m9.r.lt
            have x1 : w9.heap.size ≠ pr := by omega
            have x2 : w9.heap.size ≠ pd := by omega
            have x3 : w9.heap.size + 1 ≠ pr := by omega
            have x4 : w9.heap.size + 1 ≠ pd := by omega
            clear m9 k10 hn9 c0 c1 f0 f1 d0 d1 d2 d3 d4 d5 d6 d7 d8 d9 d10 TX hl1 hl2
            go_upto_region 19 with fail
            generalize (w9.alloc (.cells #[.string ⟨(exS s1).1.toArray⟩, .int .i64 (exS s1).2] RR)).alloc (.cells #[.bool p2.mrk, .int .u8 p2.typ, .int .u16 p2.seq, .int .u32 p2.time, .int .u32 p2.ssrc, .slice av nv cv, .bool p2.ext, .int .u16 p2.prof, .string p2.data, .string p2.pay, .int .i64 p2.pad] QR) = w10 at *
            generalize w9.heap.size + 1 = b13 at *
            generalize w9.heap.size = b12 at *
            have x5 := x1.symm
            have x6 := x2.symm
            have x7 := x3.symm
            have x8 := x4.symm
            have x9 := m10.hne
            have xa := x9.symm
            have hb10 : Blk w10 pd #[.bool p1.mrk, .int .u8 p1.typ, .int .u16 p1.seq, .int .u32 p1.time, .int .u32 p1.ssrc, .slice av nv cv, .bool p1.ext, .int .u16 p1.prof, .string p1.data, .string p1.pay, .int .i64 p1.pad] QR := m10.b
            obtain ⟨d0, d1, d2, d3, d4, d5, d6, d7, d8, d9, d10⟩ := cells11 hb10
            obtain ⟨g0, g1, g2, g3, g4, g5, g6, g7, g8, g9, g10⟩ := frees11 hb10
            obtain ⟨c0, c1, f0, f1⟩ := cells2' m10.r
            obtain ⟨y0, y1, k0, k1⟩ := cells2' q12
            obtain ⟨z0, z1, z2, z3, z4, z5, z6, z7, z8, z9, z10⟩ := cells11 q13
            have M11 := Lib.hid ((m10.putr (exS s1)).putp HP3.out.2)
            clear hb10 m10 q12 q13 HK
            go_upto_region 21 with fail
            refine (show Code.wp _ _ _ _ (put11 (put2 w10 pr ⟨(exS s1).1.toArray⟩ (exS s1).2) pd (.bool p2.mrk) (.int .u8 p2.typ) (.int .u16 p2.seq) (.int .u32 p2.time) (.int .u32 p2.ssrc) (.slice av nv cv) (.bool p2.ext) (.int .u16 p2.prof) (.string p2.data) (.string p2.pay) (.int .i64 p2.pad)) from ?_)
            generalize put11 (put2 w10 pr ⟨(exS s1).1.toArray⟩ (exS s1).2) pd (.bool p2.mrk) (.int .u8 p2.typ) (.int .u16 p2.seq) (.int .u32 p2.time) (.int .u32 p2.ssrc) (.slice av nv cv) (.bool p2.ext) (.int .u16 p2.prof) (.string p2.data) (.string p2.pay) (.int .i64 p2.pad) = w11 at *
            clear d0 d1 d2 d3 d4 d5 d6 d7 d8 d9 d10 g0 g1 g2 g3 g4 g5 g6 g7 g8 g9 g10 c0 c1 f0 f1 y0 y1 k0 k1 z0 z1 z2 z3 z4 z5 z6 z7 z8 z9 z10
            have c6 := pc6 M11.out.b
            have f6 := M11.out.b.free 6
            go_wp2_with fail
            go_meet
            case rel =>
              rw [HX.out.1, HX.out.2, HP3.out.1]
              exact M11.out.put 6 _ (ps6 M11.out.b true) rfl
          · have h16 : (a / 16 % 2 == 1) = false := by simp [h]
            have hxp : xtP a p1 s1 = p1 := by unfold xtP; rw [if_neg h]
            have hxs : xtS a s1 = s1 := by unfold xtS; rw [if_neg h]
            have HX := Lib.hid (And.intro hxp hxs)
            clear h hxp hxs
            go_wp2_with fail
            go_meet
            case rel =>
              rw [HX.out.1, HX.out.2]
              exact HK.out
        case rest =>
          have HM := Lib.hid hcut
          have hl5 : (xtS a s1).1.length ≤ 1500 := by
            unfold xtS exS exS1
            split
            · exact Nat.le_trans (nx_len _ _) (Nat.le_trans (nx_len _ _) (Nat.le_trans (nx_len _ _) hlk))
            · exact hlk
          have hcs : (xtP a p1 s1).cs = p1.cs := by unfold xtP exP; split <;> rfl
          have HPY : Hid (pyP a (xtP a p1 s1) (xtS a s1) = if a / 32 % 2 = 1 then { xtP a p1 s1 with pay := lst ((xtS a s1).1.take ((xtS a s1).1.length - (pdN (xtS a s1).1).toNat)), pad := pdN (xtS a s1).1 } else { xtP a p1 s1 with pay := lst (xtS a s1).1 }) := Lib.hid rfl
          have HPE : Hid (pyE a (xtS a s1) = if a / 32 % 2 = 1 then (fl (pdE (xtS a s1).1) ([], (xtS a s1).2)).2 else (xtS a s1).2) := Lib.hid rfl
          have HE2 : Hid (outE l = pyE a (xtS a s1)) := Lib.hid (by rw [HE.out, HXE.out])
          have HP2 : Hid (outP l = if outE l = 0 then pyP a (xtP a p1 s1) (xtS a s1) else zero) := Lib.hid (by rw [HP.out, HXT.out])
          rw [hcs.symm] at HNV
          clear HK hcut HE HP HXT HXE hsk hlk hcs
          generalize pyP a (xtP a p1 s1) (xtS a s1) = PY at *
          generalize pyE a (xtS a s1) = PE at *
          generalize xtP a p1 s1 = p2 at *
          generalize xtS a s1 = s2 at *
          obtain ⟨L, er⟩ := s2
          simp only at hl5 HPY HPE
          obtain ⟨mrk, typ, seq, time, ssrc, cs, ext, prof, data, pay, pad⟩ := p2
          simp only at HPY HNV
          have hne := HM.out.hne
          have hne' := hne.symm
          have hzd : w.heap.size ≠ pd := by have := HM.out.hd; omega
          have hzr : w.heap.size ≠ pr := by have := HM.out.hr; omega
          have hdz := hzd.symm
          have hrz := hzr.symm
          obtain ⟨c0, c1, e0, e1⟩ := cells2' HM.out.r
          simp only at c0 c1
          by_cases he : er = 0
          · subst he
            obtain ⟨S, hS⟩ : ∃ S : ByteArray, S = ⟨L.toArray⟩ := ⟨_, rfl⟩
            have hlst : lst L = S := hS.symm
            have hSs : S.size = L.length := by rw [hS]; exact size_mk L
            rw [← hS] at c0
            rw [hlst] at HPY
            have HS := Lib.hid hS
            clear hS hlst
            have hb0' : Blk wc pd #[.bool mrk, .int .u8 typ, .int .u16 seq, .int .u32 time, .int .u32 ssrc, .slice av nv cv, .bool ext, .int .u16 prof, .string data, .string pay, .int .i64 pad] QR := HM.out.b
            have d9 := hb0'.cell 9
            have f9 := hb0'.free 9
            have HMD := Lib.hid (HM.out.put 9 (.string S) (ps9 HM.out.b S) rfl)
            clear hb0' HM
            go_upto_region 25 with fail
            generalize wc.setCell ⟨pd, 9, none⟩ (.string S) = wd at *
            clear c0 c1 e0 e1 d9 f9
            by_cases hp : a / 32 % 2 = 1
            · have h32 : (a / 32 % 2 == 1) = true := by simp [hp]
              rw [if_pos hp] at HPY HPE
              clear hp
              have hr1 : Blk wd pr #[.string S, .int .i64 0] RR := by rw [HS.out]; exact HMD.out.r
              obtain ⟨c0, c1, e0, e1⟩ := cells2' hr1
              clear hr1
              by_cases hL : L = []
              · have hem : S.toList.isEmpty = true := isEmpty_nil (by rw [HS.out, hL])
                have HPP : Hid (outE l = 1 ∧ outP l = zero) := by
                  have h1 : outE l = 1 := by rw [HE2.out, HPE.out, hL]; rfl
                  refine Lib.hid ⟨h1, ?_⟩
                  rw [HP2.out, if_neg (by rw [h1]; decide)]
                clear HE2 HP2 HPY HPE hL
                have hbz : Blk wd w.heap.size #[.bool false, .int .u8 0, .int .u16 0, .int .u32 0, .int .u32 0, .slice none 0 0, .bool false, .int .u16 0, .string ⟨#[]⟩, .string ⟨#[]⟩, .int .i64 0] QR := HMD.out.z
                obtain ⟨z0, z1, z2, z3, z4, z5, z6, z7, z8, z9, z10⟩ := cells11 hbz
                obtain ⟨f0, f1, f2, f3, f4, f5, f6, f7, f8, f9, f10⟩ := frees11 hbz
                have HF := Lib.hid ((put11_blk hbz (.bool false) (.int .u8 0) (.int .u16 0) (.int .u32 0) (.int .u32 0) (.slice none 0 0) (.bool false) (.int .u16 0) (.string ⟨#[]⟩) (.string ⟨#[]⟩) (.int .i64 0)))
                have HN := Lib.hid ((put11_turns HMD.out.n (.inr (Nat.le_refl _)) (.bool false) (.int .u8 0) (.int .u16 0) (.int .u32 0) (.int .u32 0) (.slice none 0 0) (.bool false) (.int .u16 0) (.string ⟨#[]⟩) (.string ⟨#[]⟩) (.int .i64 0)))
                clear hbz HMD
                go_upto_region 27 with fail
                iterate 7 go_step
                refine (show wpList _ _ _ _ _ (put11 wd w.heap.size (.bool false) (.int .u8 0) (.int .u16 0) (.int .u32 0) (.int .u32 0) (.slice none 0 0) (.bool false) (.int .u16 0) (.string ⟨#[]⟩) (.string ⟨#[]⟩) (.int .i64 0)) from ?_)
                generalize put11 wd w.heap.size (.bool false) (.int .u8 0) (.int .u16 0) (.int .u32 0) (.int .u32 0) (.slice none 0 0) (.bool false) (.int .u16 0) (.string ⟨#[]⟩) (.string ⟨#[]⟩) (.int .i64 0) = wE at *
                clear z0 z1 z2 z3 z4 z5 z6 z7 z8 z9 z10 f0 f1 f2 f3 f4 f5 f6 f7 f8 f9 f10
                obtain ⟨z0, z1, z2, z3, z4, z5, z6, z7, z8, z9, z10⟩ := cells11 HF.out
                (repeat go_step)
                refine bodyPost_ret (v := .tuple #[.agg #[.bool false, .int .u8 0, .int .u16 0, .int .u32 0, .int .u32 0, .slice none 0 0, .bool false, .int .u16 0, .string ⟨#[]⟩, .string ⟨#[]⟩, .int .i64 0], .int .i64 1]) (by simp [results, Try.results24, go_sem, z0, z1, z2, z3, z4, z5, z6, z7, z8, z9, z10]) rfl ?_
                refine ⟨.slice none 0 0, ?_, HN.out, ?_⟩
                · rw [HPP.out.1, HPP.out.2]; rfl
                · rw [HPP.out.2]; exact World.ownsRow_nil _ _ _ _
              · have hem : S.toList.isEmpty = false := isEmpty_cons (by rw [HS.out]; exact hL)
                have hlen : 0 < L.length := List.length_pos_iff.2 hL
                obtain ⟨j, hj⟩ : ∃ j : Nat, j + 1 = L.length := ⟨L.length - 1, by omega⟩
                have hjs : j < S.size := by omega
                have hbt := bt_is S j hjs
                have hlb : bt S j = lastB L := by rw [HS.out, show j = L.length - 1 by omega]; exact last_bt L hL
                rw [hlb] at hbt
                have hbd := bt_bd S j
                rw [hlb] at hbd
                obtain ⟨hx0, hx1⟩ := hbd
                have hpe : pdE L = if lastB L = 0 then 2 else if (L.length : Int) < lastB L then 1 else 0 := by unfold pdE; rw [if_neg hL]
                have hpn : pdN L = if lastB L = 0 then 0 else if (L.length : Int) < lastB L then 0 else lastB L := by unfold pdN; rw [if_neg hL]
                have HPEE := Lib.hid hpe
                have HPNN := Lib.hid hpn
                have hk2 : (S.size : Int) - 1 = (j : Int) := by omega
                have hk3 : (S.size : Int) = (j : Int) + 1 := by omega
                have hk4 : (j : Int) ≤ 1500 := by omega
                clear hpe hpn hlb hL
                generalize lastB L = x at *
                by_cases hx : x = 0
                · subst hx
                  have HPP : Hid (outE l = 2 ∧ outP l = zero) := by
                    have h1 : outE l = 2 := by rw [HE2.out, HPE.out, HPEE.out, if_pos rfl]; rfl
                    refine Lib.hid ⟨h1, ?_⟩
                    rw [HP2.out, if_neg (by rw [h1]; decide)]
                  clear HE2 HP2 HPY HPE HPEE HPNN hSs hj
                  have hbz : Blk wd w.heap.size #[.bool false, .int .u8 0, .int .u16 0, .int .u32 0, .int .u32 0, .slice none 0 0, .bool false, .int .u16 0, .string ⟨#[]⟩, .string ⟨#[]⟩, .int .i64 0] QR := HMD.out.z
                  obtain ⟨z0, z1, z2, z3, z4, z5, z6, z7, z8, z9, z10⟩ := cells11 hbz
                  obtain ⟨f0, f1, f2, f3, f4, f5, f6, f7, f8, f9, f10⟩ := frees11 hbz
                  have HF := Lib.hid ((put11_blk hbz (.bool false) (.int .u8 0) (.int .u16 0) (.int .u32 0) (.int .u32 0) (.slice none 0 0) (.bool false) (.int .u16 0) (.string ⟨#[]⟩) (.string ⟨#[]⟩) (.int .i64 0)))
                  have HN := Lib.hid ((put11_turns HMD.out.n (.inr (Nat.le_refl _)) (.bool false) (.int .u8 0) (.int .u16 0) (.int .u32 0) (.int .u32 0) (.slice none 0 0) (.bool false) (.int .u16 0) (.string ⟨#[]⟩) (.string ⟨#[]⟩) (.int .i64 0)))
                  clear hbz HMD
                  go_upto_region 30 with fail
                  iterate 7 go_step
                  refine (show wpList _ _ _ _ _ (put11 wd w.heap.size (.bool false) (.int .u8 0) (.int .u16 0) (.int .u32 0) (.int .u32 0) (.slice none 0 0) (.bool false) (.int .u16 0) (.string ⟨#[]⟩) (.string ⟨#[]⟩) (.int .i64 0)) from ?_)
                  generalize put11 wd w.heap.size (.bool false) (.int .u8 0) (.int .u16 0) (.int .u32 0) (.int .u32 0) (.slice none 0 0) (.bool false) (.int .u16 0) (.string ⟨#[]⟩) (.string ⟨#[]⟩) (.int .i64 0) = wE at *
                  clear z0 z1 z2 z3 z4 z5 z6 z7 z8 z9 z10 f0 f1 f2 f3 f4 f5 f6 f7 f8 f9 f10
                  obtain ⟨z0, z1, z2, z3, z4, z5, z6, z7, z8, z9, z10⟩ := cells11 HF.out
                  (repeat go_step)
                  refine bodyPost_ret (v := .tuple #[.agg #[.bool false, .int .u8 0, .int .u16 0, .int .u32 0, .int .u32 0, .slice none 0 0, .bool false, .int .u16 0, .string ⟨#[]⟩, .string ⟨#[]⟩, .int .i64 0], .int .i64 2]) (by simp [results, Try.results24, go_sem, z0, z1, z2, z3, z4, z5, z6, z7, z8, z9, z10]) rfl ?_
                  refine ⟨.slice none 0 0, ?_, HN.out, ?_⟩
                  · rw [HPP.out.1, HPP.out.2]; rfl
                  · rw [HPP.out.2]; exact World.ownsRow_nil _ _ _ _
                · have hxb : (x == 0) = false := by simp [hx]
                  by_cases hg : (L.length : Int) < x
                  · have hg2 : (S.size : Int) < x := by omega
                    have hg3 : (j : Int) + 1 < x := by omega
                    have HPP : Hid (outE l = 1 ∧ outP l = zero) := by
                      have h1 : outE l = 1 := by rw [HE2.out, HPE.out, HPEE.out, if_neg hx, if_pos hg]; rfl
                      refine Lib.hid ⟨h1, ?_⟩
                      rw [HP2.out, if_neg (by rw [h1]; decide)]
                    clear HE2 HP2 HPY HPE HPEE HPNN hSs hj hx hg
                    have hbz : Blk wd w.heap.size #[.bool false, .int .u8 0, .int .u16 0, .int .u32 0, .int .u32 0, .slice none 0 0, .bool false, .int .u16 0, .string ⟨#[]⟩, .string ⟨#[]⟩, .int .i64 0] QR := HMD.out.z
                    obtain ⟨z0, z1, z2, z3, z4, z5, z6, z7, z8, z9, z10⟩ := cells11 hbz
                    obtain ⟨f0, f1, f2, f3, f4, f5, f6, f7, f8, f9, f10⟩ := frees11 hbz
                    have HF := Lib.hid ((put11_blk hbz (.bool false) (.int .u8 0) (.int .u16 0) (.int .u32 0) (.int .u32 0) (.slice none 0 0) (.bool false) (.int .u16 0) (.string ⟨#[]⟩) (.string ⟨#[]⟩) (.int .i64 0)))
                    have HN := Lib.hid ((put11_turns HMD.out.n (.inr (Nat.le_refl _)) (.bool false) (.int .u8 0) (.int .u16 0) (.int .u32 0) (.int .u32 0) (.slice none 0 0) (.bool false) (.int .u16 0) (.string ⟨#[]⟩) (.string ⟨#[]⟩) (.int .i64 0)))
                    clear hbz HMD
                    go_upto_region 32 with fail
                    iterate 7 go_step
                    refine (show wpList _ _ _ _ _ (put11 wd w.heap.size (.bool false) (.int .u8 0) (.int .u16 0) (.int .u32 0) (.int .u32 0) (.slice none 0 0) (.bool false) (.int .u16 0) (.string ⟨#[]⟩) (.string ⟨#[]⟩) (.int .i64 0)) from ?_)
                    generalize put11 wd w.heap.size (.bool false) (.int .u8 0) (.int .u16 0) (.int .u32 0) (.int .u32 0) (.slice none 0 0) (.bool false) (.int .u16 0) (.string ⟨#[]⟩) (.string ⟨#[]⟩) (.int .i64 0) = wE at *
                    clear z0 z1 z2 z3 z4 z5 z6 z7 z8 z9 z10 f0 f1 f2 f3 f4 f5 f6 f7 f8 f9 f10
                    obtain ⟨z0, z1, z2, z3, z4, z5, z6, z7, z8, z9, z10⟩ := cells11 HF.out
                    (repeat go_step)
                    refine bodyPost_ret (v := .tuple #[.agg #[.bool false, .int .u8 0, .int .u16 0, .int .u32 0, .int .u32 0, .slice none 0 0, .bool false, .int .u16 0, .string ⟨#[]⟩, .string ⟨#[]⟩, .int .i64 0], .int .i64 1]) (by simp [results, Try.results24, go_sem, z0, z1, z2, z3, z4, z5, z6, z7, z8, z9, z10]) rfl ?_
                    refine ⟨.slice none 0 0, ?_, HN.out, ?_⟩
                    · rw [HPP.out.1, HPP.out.2]; rfl
                    · rw [HPP.out.2]; exact World.ownsRow_nil _ _ _ _
                  · have hg2 : ¬ (S.size : Int) < x := by omega
                    have hg3 : ¬ (j : Int) + 1 < x := by omega
                    obtain ⟨m, hm⟩ : ∃ m : Nat, (m : Int) = (L.length : Int) - x := ⟨((L.length : Int) - x).toNat, by omega⟩
                    have hm2 : (S.size : Int) - x = (m : Int) := by omega
                    have hm3 : (j : Int) + 1 - x = (m : Int) := by omega
                    have hm4 : m ≤ S.size := by omega
                    obtain ⟨P2, hP2⟩ : ∃ P2, P2 = S.extract 0 m := ⟨_, rfl⟩
                    have hPe : S.extract 0 m = P2 := hP2.symm
                    have HPP : Hid (outE l = 0 ∧ outP l = ⟨mrk, typ, seq, time, ssrc, cs, ext, prof, data, P2, x⟩) := by
                      have h1 : outE l = 0 := by rw [HE2.out, HPE.out, HPEE.out, if_neg hx, if_neg hg]; rfl
                      refine Lib.hid ⟨h1, ?_⟩
                      rw [HP2.out, if_pos h1, HPY.out, HPNN.out, if_neg hx, if_neg hg]
                      congr 1
                      rw [hP2, HS.out, extract_mk]
                      show (⟨(L.take (L.length - x.toNat)).toArray⟩ : ByteArray) = _
                      rw [show L.length - x.toNat = m by omega]
                      simp
                    have hbD : Blk wd pd #[.bool mrk, .int .u8 typ, .int .u16 seq, .int .u32 time, .int .u32 ssrc, .slice av nv cv, .bool ext, .int .u16 prof, .string data, .string S, .int .i64 pad] QR := HMD.out.b
                    obtain ⟨d0, d1, d2, d3, d4, d5, d6, d7, d8, d9, d10⟩ := cells11 hbD
                    obtain ⟨g0, g1, g2, g3, g4, g5, g6, g7, g8, g9, g10⟩ := frees11 hbD
                    have m1 := HMD.out.put 10 (.int .i64 x) (ps10 HMD.out.b x) rfl
                    have HMF := Lib.hid (m1.put 9 (.string P2) (ps9 m1.b P2) rfl)
                    clear HE2 HP2 HPY HPE HPEE HPNN hSs hj hx hg m1 hbD hP2 hm HMD
                    go_upto_region 35 with fail
                    generalize (wd.setCell ⟨pd, 10, none⟩ (.int .i64 x)).setCell ⟨pd, 9, none⟩ (.string P2) = wf at *
                    clear d0 d1 d2 d3 d4 d5 d6 d7 d8 d9 d10 g0 g1 g2 g3 g4 g5 g6 g7 g8 g9 g10 c0 c1 e0 e1
                    have hbz : Blk wf w.heap.size #[.bool false, .int .u8 0, .int .u16 0, .int .u32 0, .int .u32 0, .slice none 0 0, .bool false, .int .u16 0, .string ⟨#[]⟩, .string ⟨#[]⟩, .int .i64 0] QR := HMF.out.z
                    have hbd : Blk wf pd #[.bool mrk, .int .u8 typ, .int .u16 seq, .int .u32 time, .int .u32 ssrc, .slice av nv cv, .bool ext, .int .u16 prof, .string data, .string P2, .int .i64 x] QR := HMF.out.b
                    obtain ⟨z0, z1, z2, z3, z4, z5, z6, z7, z8, z9, z10⟩ := cells11 hbz
                    obtain ⟨f0, f1, f2, f3, f4, f5, f6, f7, f8, f9, f10⟩ := frees11 hbz
                    obtain ⟨d0, d1, d2, d3, d4, d5, d6, d7, d8, d9, d10⟩ := cells11 hbd
                    have HF := Lib.hid (put11_blk hbz (.bool mrk) (.int .u8 typ) (.int .u16 seq) (.int .u32 time) (.int .u32 ssrc) (.slice av nv cv) (.bool ext) (.int .u16 prof) (.string data) (.string P2) (.int .i64 x))
                    have HN := Lib.hid (put11_turns HMF.out.n (.inr (Nat.le_refl _)) (.bool mrk) (.int .u8 typ) (.int .u16 seq) (.int .u32 time) (.int .u32 ssrc) (.slice av nv cv) (.bool ext) (.int .u16 prof) (.string data) (.string P2) (.int .i64 x))
                    have hv3 := HMF.out.v3
                    have HO2 := Lib.hid (own_turns HMF.out.o (put11_turns (Turns.refl (· = w.heap.size) wf) (.inl rfl) (.bool mrk) (.int .u8 typ) (.int .u16 seq) (.int .u32 time) (.int .u32 ssrc) (.slice av nv cv) (.bool ext) (.int .u16 prof) (.string data) (.string P2) (.int .i64 x)) (fun g hg hk => hv3 (by rw [hg, hk])))
                    have hdz : pd ≠ w.heap.size := by have := HMF.out.hd; omega
                    have hzd := hdz.symm
                    clear hbz hbd hv3 HMF
                    iterate 7 go_step
                    refine (show wpList _ _ _ _ _ (put11 wf w.heap.size (.bool mrk) (.int .u8 typ) (.int .u16 seq) (.int .u32 time) (.int .u32 ssrc) (.slice av nv cv) (.bool ext) (.int .u16 prof) (.string data) (.string P2) (.int .i64 x)) from ?_)
                    generalize put11 wf w.heap.size (.bool mrk) (.int .u8 typ) (.int .u16 seq) (.int .u32 time) (.int .u32 ssrc) (.slice av nv cv) (.bool ext) (.int .u16 prof) (.string data) (.string P2) (.int .i64 x) = wE at *
                    clear z0 z1 z2 z3 z4 z5 z6 z7 z8 z9 z10 f0 f1 f2 f3 f4 f5 f6 f7 f8 f9 f10 d0 d1 d2 d3 d4 d5 d6 d7 d8 d9 d10
                    obtain ⟨z0, z1, z2, z3, z4, z5, z6, z7, z8, z9, z10⟩ := cells11 HF.out
                    (repeat go_step)
                    refine bodyPost_ret (v := .tuple #[.agg #[.bool mrk, .int .u8 typ, .int .u16 seq, .int .u32 time, .int .u32 ssrc, .slice av nv cv, .bool ext, .int .u16 prof, .string data, .string P2, .int .i64 x], .int .i64 0]) (by simp [results, Try.results24, go_sem, z0, z1, z2, z3, z4, z5, z6, z7, z8, z9, z10]) rfl ?_
                    refine ⟨.slice av nv cv, ?_, HN.out, ?_⟩
                    · rw [HPP.out.1, HPP.out.2]; rfl
                    · rw [HPP.out.2]; exact HO2.out
            · have h32 : (a / 32 % 2 == 1) = false := by simp [hp]
              rw [if_neg hp] at HPY HPE
              have HPP : Hid (outE l = 0 ∧ outP l = ⟨mrk, typ, seq, time, ssrc, cs, ext, prof, data, S, pad⟩) := by
                have h1 : outE l = 0 := by rw [HE2.out, HPE.out]
                refine Lib.hid ⟨h1, ?_⟩
                rw [HP2.out, if_pos h1, HPY.out]
              clear HE2 HP2 HPY HPE hp
              have hbz : Blk wd w.heap.size #[.bool false, .int .u8 0, .int .u16 0, .int .u32 0, .int .u32 0, .slice none 0 0, .bool false, .int .u16 0, .string ⟨#[]⟩, .string ⟨#[]⟩, .int .i64 0] QR := HMD.out.z
              have hbd : Blk wd pd #[.bool mrk, .int .u8 typ, .int .u16 seq, .int .u32 time, .int .u32 ssrc, .slice av nv cv, .bool ext, .int .u16 prof, .string data, .string S, .int .i64 pad] QR := HMD.out.b
              obtain ⟨z0, z1, z2, z3, z4, z5, z6, z7, z8, z9, z10⟩ := cells11 hbz
              obtain ⟨f0, f1, f2, f3, f4, f5, f6, f7, f8, f9, f10⟩ := frees11 hbz
              obtain ⟨d0, d1, d2, d3, d4, d5, d6, d7, d8, d9, d10⟩ := cells11 hbd
              have HF := Lib.hid (put11_blk hbz (.bool mrk) (.int .u8 typ) (.int .u16 seq) (.int .u32 time) (.int .u32 ssrc) (.slice av nv cv) (.bool ext) (.int .u16 prof) (.string data) (.string S) (.int .i64 pad))
              have HN := Lib.hid (put11_turns HMD.out.n (.inr (Nat.le_refl _)) (.bool mrk) (.int .u8 typ) (.int .u16 seq) (.int .u32 time) (.int .u32 ssrc) (.slice av nv cv) (.bool ext) (.int .u16 prof) (.string data) (.string S) (.int .i64 pad))
              have hv3 := HMD.out.v3
              have HO2 := Lib.hid (own_turns HMD.out.o (put11_turns (Turns.refl (· = w.heap.size) wd) (.inl rfl) (.bool mrk) (.int .u8 typ) (.int .u16 seq) (.int .u32 time) (.int .u32 ssrc) (.slice av nv cv) (.bool ext) (.int .u16 prof) (.string data) (.string S) (.int .i64 pad)) (fun g hg hk => hv3 (by rw [hg, hk])))
              have hdz : pd ≠ w.heap.size := by have := HMD.out.hd; omega
              have hzd := hdz.symm
              clear hbz hbd hv3 HMD
              go_upto_region 35 with fail
              iterate 7 go_step
              refine (show wpList _ _ _ _ _ (put11 wd w.heap.size (.bool mrk) (.int .u8 typ) (.int .u16 seq) (.int .u32 time) (.int .u32 ssrc) (.slice av nv cv) (.bool ext) (.int .u16 prof) (.string data) (.string S) (.int .i64 pad)) from ?_)
              generalize put11 wd w.heap.size (.bool mrk) (.int .u8 typ) (.int .u16 seq) (.int .u32 time) (.int .u32 ssrc) (.slice av nv cv) (.bool ext) (.int .u16 prof) (.string data) (.string S) (.int .i64 pad) = wE at *
              clear z0 z1 z2 z3 z4 z5 z6 z7 z8 z9 z10 f0 f1 f2 f3 f4 f5 f6 f7 f8 f9 f10 d0 d1 d2 d3 d4 d5 d6 d7 d8 d9 d10
              obtain ⟨z0, z1, z2, z3, z4, z5, z6, z7, z8, z9, z10⟩ := cells11 HF.out
              (repeat go_step)
              refine bodyPost_ret (v := .tuple #[.agg #[.bool mrk, .int .u8 typ, .int .u16 seq, .int .u32 time, .int .u32 ssrc, .slice av nv cv, .bool ext, .int .u16 prof, .string data, .string S, .int .i64 pad], .int .i64 0]) (by simp [results, Try.results24, go_sem, z0, z1, z2, z3, z4, z5, z6, z7, z8, z9, z10]) rfl ?_
              refine ⟨.slice av nv cv, ?_, HN.out, ?_⟩
              · rw [HPP.out.1, HPP.out.2]; rfl
              · rw [HPP.out.2]; exact HO2.out
          · have heb : (er != 0) = true := by simp [he]
            have HPP : Hid (outE l = er ∧ outP l = zero) := by
              have h1 : outE l = er := by
                rw [HE2.out, HPE.out]
                unfold fl
                split
                · rw [if_neg (fun hh => he hh.1)]
                · rfl
              refine Lib.hid ⟨h1, ?_⟩
              rw [HP2.out, if_neg (by rw [h1]; exact he)]
            clear HE2 HP2 HPY HPE he
            have hbz : Blk wc w.heap.size #[.bool false, .int .u8 0, .int .u16 0, .int .u32 0, .int .u32 0, .slice none 0 0, .bool false, .int .u16 0, .string ⟨#[]⟩, .string ⟨#[]⟩, .int .i64 0] QR := HM.out.z
            obtain ⟨z0, z1, z2, z3, z4, z5, z6, z7, z8, z9, z10⟩ := cells11 hbz
            obtain ⟨f0, f1, f2, f3, f4, f5, f6, f7, f8, f9, f10⟩ := frees11 hbz
            have HF := Lib.hid ((put11_blk hbz (.bool false) (.int .u8 0) (.int .u16 0) (.int .u32 0) (.int .u32 0) (.slice none 0 0) (.bool false) (.int .u16 0) (.string ⟨#[]⟩) (.string ⟨#[]⟩) (.int .i64 0)).drew)
            have HN := Lib.hid ((put11_turns HM.out.n (.inr (Nat.le_refl _)) (.bool false) (.int .u8 0) (.int .u16 0) (.int .u32 0) (.int .u32 0) (.slice none 0 0) (.bool false) (.int .u16 0) (.string ⟨#[]⟩) (.string ⟨#[]⟩) (.int .i64 0)).drew)
            clear hbz HM
            go_wp2_with fail
            go_region
            all_goals
              go_wp2
              refine (show bodyPost _ _ _ _ _ (World.drew (put11 wc w.heap.size (.bool false) (.int .u8 0) (.int .u16 0) (.int .u32 0) (.int .u32 0) (.slice none 0 0) (.bool false) (.int .u16 0) (.string ⟨#[]⟩) (.string ⟨#[]⟩) (.int .i64 0))) from ?_)
              generalize World.drew (put11 wc w.heap.size (.bool false) (.int .u8 0) (.int .u16 0) (.int .u32 0) (.int .u32 0) (.slice none 0 0) (.bool false) (.int .u16 0) (.string ⟨#[]⟩) (.string ⟨#[]⟩) (.int .i64 0)) = wE at *
              clear z0 z1 z2 z3 z4 z5 z6 z7 z8 z9 z10 f0 f1 f2 f3 f4 f5 f6 f7 f8 f9 f10
              obtain ⟨z0, z1, z2, z3, z4, z5, z6, z7, z8, z9, z10⟩ := cells11 HF.out
              refine bodyPost_ret (v := .tuple #[.agg #[.bool false, .int .u8 0, .int .u16 0, .int .u32 0, .int .u32 0, .slice none 0 0, .bool false, .int .u16 0, .string ⟨#[]⟩, .string ⟨#[]⟩, .int .i64 0], .int .i64 er]) (by simp [results, Try.results24, go_sem, z0, z1, z2, z3, z4, z5, z6, z7, z8, z9, z10]) rfl ?_
              refine ⟨.slice none 0 0, ?_, HN.out, ?_⟩
              · rw [HPP.out.1, HPP.out.2]; rfl
              · rw [HPP.out.2]; exact World.ownsRow_nil _ _ _ _
end Go.Proofs.Ytkpmdaknojlkjaa.rp
