/-
  ReorderPlays: the law.
-/
import Derived.Test.YtfgfejcnkjeghaaReoPl
import Derived.Test.YtfgfejcnkjeghaaReactRow
namespace Go.Proofs.Ytfgfejcnkjeghaa.reo
open Go.RowKit mem
open ints (IE)
set_option linter.unusedVariables false

theorem Dn.later {w0 w w' w2 : World} {p : Nat} {vb v' u : Value} {b' : B} {o : List Th} (h : Dn w0 w w' p vb b' v' u o) (n : New w' w2) : Dn w0 w w2 p vb b' v' u o := by
  obtain ⟨vb', ho⟩ := h.own
  exact ⟨⟨vb', ho.later n⟩, h.rs.later n, h.t.trans (n.mono (fun _ _ h => h.elim)), h.out.turns n (fun _ _ h => h)⟩
theorem Dn.base {w0 w1 w w' : World} {p : Nat} {vb v' u : Value} {b' : B} {o : List Th} (n : New w1 w) (h : Dn w0 w w' p vb b' v' u o) : Dn w0 w1 w' p vb b' v' u o :=
  ⟨h.own, h.rs, (n.mono (fun _ _ h => h.elim)).trans (h.t.mono (fun i _ hi => .inl hi)), h.out⟩
theorem Dn.off {w0 w w' w2 : World} {p pt : Nat} {vb v' u : Value} {b' : B} {o : List Th} {cs : Array Value} (h : Dn w0 w w' p vb b' v' u o) (hb : Blk w' pt cs TS) (t : Turns (· = pt) w' w2) (h0 : w0.heap.size ≤ pt) (h1 : w.heap.size ≤ pt) : Dn w0 w w2 p vb b' v' u o := by
  obtain ⟨vb', ho⟩ := h.own
  exact ⟨⟨vb', ho.turnps hb t h0⟩, h.rs.turns t (fun g hg e => h.rs.off hb (by decide) (by rw [hg, e])), h.t.trans (t.mono (fun i _ hi => .inr (by rw [hi]; exact h1))), h.out.turns t (fun g hg e => own_ne h.out hb (by decide) (by rw [hg, e]))⟩
theorem Dn.keep {w0 w w' : World} {p q : Nat} {vb v' u : Value} {b b' : B} {o : List Th} {cs : Array Value} (h : Dn w0 w w' p vb b' v' u o) (hw : Own w0 w p vb b) (hq : Blk w q cs TS) : Blk w' q cs TS := h.t.blk hq (fun e => by
    rcases e with e | e
    · have k := hw.bs.blk
      have k2 := hq
      rw [e] at k2
      unfold Blk at k k2
      rw [k] at k2
      injection k2 with k2
      injection k2 with _ k2
      exact absurd k2 (by decide)
    · exact own_ne hw.bs.own hq (by decide) e)
/-- what the region with Does holds on to -/
abbrev HeldP (S : Nat → Prop) (w w' : World) (ps b o o1 o2 : Nat) (x0 x1 x2 x3 x4 x5 x6 x7 a0 a1 a2 : Value) : Prop :=
  Turns S w w' ∧ ps < w'.heap.size ∧ b < w'.heap.size ∧ w'.cell? ⟨ps, 0, none⟩ = some x0 ∧ w'.cell? ⟨ps, 1, none⟩ = some x1 ∧ w'.cell? ⟨ps, 2, none⟩ = some x2 ∧ w'.cell? ⟨ps, 3, none⟩ = some x3 ∧ w'.cell? ⟨ps, 4, none⟩ = some x4 ∧ w'.cell? ⟨ps, 5, none⟩ = some x5 ∧ w'.cell? ⟨ps, 6, none⟩ = some x6 ∧ w'.cell? ⟨ps, 7, none⟩ = some x7
    ∧ w'.cell? ⟨b, o, none⟩ = some a0 ∧ w'.cell? ⟨b, o1, none⟩ = some a1 ∧ w'.cell? ⟨b, o2, none⟩ = some a2
section
variable {S : Nat → Prop} {w w' w1 w2 : World} {ps b o o1 o2 : Nat} {x0 x1 x2 x3 x4 x5 x6 x7 a0 a1 a2 : Value}
theorem heldP_drew (h : HeldP S w w' ps b o o1 o2 x0 x1 x2 x3 x4 x5 x6 x7 a0 a1 a2) : HeldP S w w'.drew ps b o o1 o2 x0 x1 x2 x3 x4 x5 x6 x7 a0 a1 a2 := by
  obtain ⟨hn, h⟩ := h
  exact ⟨hn.drew, h⟩
theorem heldP_turns (k : Turns S w1 w2) (hx : ¬ S ps) (hb : ¬ S b) (h : HeldP S w w1 ps b o o1 o2 x0 x1 x2 x3 x4 x5 x6 x7 a0 a1 a2) : HeldP S w w2 ps b o o1 o2 x0 x1 x2 x3 x4 x5 x6 x7 a0 a1 a2 := by
  obtain ⟨hn, hl, hbl, h0, h1, h2, h3, h4, h5, h6, h7, g0, g1, g2⟩ := h
  have c := fun i => k.cell (a := ⟨ps, i, none⟩) hl hx
  have d := fun i => k.cell (a := ⟨b, i, none⟩) hbl hb
  exact ⟨hn.trans (k.mono (fun _ _ h => .inl h)), Nat.lt_of_lt_of_le hl k.size, Nat.lt_of_lt_of_le hbl k.size, (c 0).trans h0, (c 1).trans h1, (c 2).trans h2, (c 3).trans h3, (c 4).trans h4, (c 5).trans h5, (c 6).trans h6, (c 7).trans h7, (d _).trans g0, (d _).trans g1, (d _).trans g2⟩
theorem heldP_alloc (x : Obj) (h : HeldP S w w1 ps b o o1 o2 x0 x1 x2 x3 x4 x5 x6 x7 a0 a1 a2) : HeldP S w (w1.alloc x) ps b o o1 o2 x0 x1 x2 x3 x4 x5 x6 x7 a0 a1 a2 := by
  obtain ⟨hn, hl, hbl, h0, h1, h2, h3, h4, h5, h6, h7, g0, g1, g2⟩ := h
  have k : New w1 (w1.alloc x) := (Turns.refl _ _).alloc x
  have c := fun i => k.cell (a := ⟨ps, i, none⟩) hl (fun h => h)
  have d := fun i => k.cell (a := ⟨b, i, none⟩) hbl (fun h => h)
  exact ⟨hn.alloc _, Nat.lt_of_lt_of_le hl k.size, Nat.lt_of_lt_of_le hbl k.size, (c 0).trans h0, (c 1).trans h1, (c 2).trans h2, (c 3).trans h3, (c 4).trans h4, (c 5).trans h5, (c 6).trans h6, (c 7).trans h7, (d _).trans g0, (d _).trans g1, (d _).trans g2⟩
end
abbrev zeroP : Array Value := #[.pointer none, .int .i64 0, .int .i64 0, .bool false, .int .i64 0, .slice none 0 0, .int .i64 0, .int .i64 0]
theorem new_p {w W wq : World} (hk : ∀ q cs, Blk W q cs TS → Blk wq q cs TS) (hW : W.heap = (w.alloc (.cells zeroP TS)).heap) : Blk wq w.heap.size zeroP TS := by
  refine hk _ _ ?_
  unfold Blk; rw [hW]; exact Blk.new w _ _
theorem Turns.seq {w w1 w2 : World} (h : New w w1) (k : New w1 w2) : New w w2 := h.trans (k.mono (fun _ _ h => h.elim))
theorem Owns.psx {w : World} {ps : Nat} {u : Value} {O : List Th} {cs vs : List Value} (h : Owns TE RT w u O) (hb : Blk w ps cs.toArray TS) : Owns TE RT (puts w ps 0 vs) u O :=
  h.turns (puts_turns (S := (· = ps)) (.inl rfl) _ 0 _ (Turns.refl _ _)) (fun g hg e => own_ne h hb (by decide) (by rw [hg, e]))

theorem own_at {α : Type} {E : Enc α} {T : TypeId} {w : World} {ao : Option Addr} {n c : Nat} {l : List α} (h : Owns E T w (.slice ao n c) l) {k : Nat} {x : α} (hx : l[k]? = some x) : ∃ g, ao = some ⟨g, 0, none⟩ ∧ ∀ (j : Nat) (u : Value), (E.cs x)[j]? = some u → w.cell? ⟨g, k * E.n + j, none⟩ = some u := by
  obtain ⟨ao', c', hv, _, hr, _⟩ := h.form
  injection hv with e1 _ _
  subst e1
  rcases hr with e | ⟨g, e, _, hcell⟩
  · rw [e] at hx; simp at hx
  · exact ⟨g, e, fun j u hu => hcell k x hx j u hu⟩
theorem own_at1 {w : World} {ao : Option Addr} {n c : Nat} {l : List Int} (h : Owns IE JT w (.slice ao n c) l) {k : Nat} {x : Int} (hx : l[k]? = some x) : ∃ g, ao = some ⟨g, 0, none⟩ ∧ w.cell? ⟨g, k, none⟩ = some (.int .i64 x) := by
  obtain ⟨g, e, h1⟩ := own_at h hx
  have h2 := h1 0 _ rfl
  have : k * IE.n + 0 = k := by show k * 1 + 0 = k; omega
  rw [this] at h2
  exact ⟨g, e, h2⟩

set_option maxRecDepth 100000 in
set_option maxHeartbeats 8000000 in
theorem plays_law (f a : Int) (ao : Option Addr) (n c : Nat) (z : Nat → Int × Int × ByteArray) (w : World) (f0 : -9223372036854775808 ≤ f) (f1 : f ≤ 9223372036854775807) (a0 : -9223372036854775808 ≤ a) (a1 : a ≤ 9223372036854775807) (h : args.reactRow w ao n c z) :
    Calls Try.prog 3 #[.int .i64 f, .int .i64 a, .slice ao n c] w fun e w' => e = .returned (.bool true) ∧ Below w.heap.size w w' := by
  have HA := Lib.hid (fun w => awake w)
  have HBG := Lib.hid (beginC f a w w (Turns.refl _ _))
  have hF : 1 ≤ 1 + f % 256 % 12 ∧ 1 + f % 256 % 12 ≤ 1024 ∧ 0 ≤ a % 16 ∧ a % 16 ≤ 1099511627776 := by omega
  have hfin : Fine (zeroB (1 + f % 256 % 12) (a % 16)) 1031 := zero_fine hF (by decide)
  have hLE : (zeroB (1 + f % 256 % 12) (a % 16)).L = [] ∧ Zero (zeroB (1 + f % 256 % 12) (a % 16)) ∧ (-1 : Int) < (zeroB (1 + f % 256 % 12) (a % 16)).next := ⟨rfl, zero_zero _ _, by show (-1 : Int) < 0; decide⟩
  obtain ⟨hn, hok, hrow⟩ := h
  have HOK := Lib.hid hok
  have HROW := Lib.hid hrow
  generalize zeroB (1 + f % 256 % 12) (a % 16) = bz at *
  have HFI := Lib.hid hfin
  have HLE := Lib.hid hLE
  clear hok hrow a0 a1 f0 f1 hF hfin hLE
  unfold stL at HBG
  go_enter Try.func3, Try.ntmps3
  go_wp2_with fail
  refine HBG.out.mono ?_
  rintro e w1 ⟨p, rfl, ho1⟩
  have HL0 : Hid (PL w (w1.alloc (.cells #[.pointer (some ⟨p, 0, none⟩), .int .i64 bz.most, .int .i64 bz.wait, .bool bz.begun, .int .i64 bz.next, .slice none 0 0, .int .i64 bz.lost, .int .i64 0] TS)) w1.heap.size p (.slice none 0 0) bz (.slice none 0 0) 0 0 (-1)) := Lib.hid ⟨⟨ho1.later ((Turns.refl _ _).alloc _), by rw [HLE.out.1]; exact RS.nil _, Blk.new _ _ _, ho1.n.size, HFI.out, Int.le_refl _, Int.le_refl _⟩, HLE.out.2.1, Int.le_refl _, HLE.out.2.2⟩
  clear ho1 HBG
  go_upto_region 2 with fail
  refine (show Code.wp _ _ _ _ (w1.alloc (.cells #[.pointer (some ⟨p, 0, none⟩), .int .i64 bz.most, .int .i64 bz.wait, .bool bz.begun, .int .i64 bz.next, .slice none 0 0, .int .i64 bz.lost, .int .i64 0] TS)) from ?_)
  generalize w1.alloc (.cells #[.pointer (some ⟨p, 0, none⟩), .int .i64 bz.most, .int .i64 bz.wait, .bool bz.begun, .int .i64 bz.next, .slice none 0 0, .int .i64 bz.lost, .int .i64 0] TS) = w2 at *
  generalize w1.heap.size = ps at *
  go_wp2_with fail
  refine (HA.out _).mono ?_
  rintro e w3 ⟨rfl, n3⟩
  have HL3 := Lib.hid (HL0.out.later n3)
  clear n3 HL0 HA
  go_wp2_with fail
  go_loopw [9, 10] (fun l i wr => ∃ (k : Nat) (vb v : Value) (b : B) (now last : Int), k ≤ n ∧ k ≤ 150 ∧ l = .int .i64 last ∧ i = .int .i64 k ∧ PL w wr ps p vb b v now k last) (fun _ i _ => n - (intOf i).toNat)
  case atStart => exact ⟨0, _, _, _, _, _, Nat.zero_le _, by omega, rfl, rfl, HL3.out⟩
  case round =>
    obtain ⟨k, vb, v, b, now, last, hk, hk150, rfl, rfl, hlp⟩ := hrel
    obtain ⟨ax, nx, cx, hxv, q1, q2, q3⟩ := hlp.wl.rs.form
    clear q1 q2 q3 HL3
    subst hxv
    have HLP := Lib.hid hlp
    clear hlp
    by_cases hgo : k < n ∧ k < 150
    · obtain ⟨hlt, h150⟩ := hgo
      obtain ⟨bq, off, rfl, hb, hc⟩ := HROW.out.resolve_left (by omega)
      have hzo := HOK.out k hlt
      have hzc := hc k hlt
      have e0 := (HLP.out.wl.own.n.cell (a := ⟨bq, off + k * 3, none⟩) hb (fun h => h)).trans hzc.1
      have e1 := (HLP.out.wl.own.n.cell (a := ⟨bq, off + k * 3 + 1, none⟩) hb (fun h => h)).trans hzc.2.1
      have e2 := (HLP.out.wl.own.n.cell (a := ⟨bq, off + k * 3 + 2, none⟩) hb (fun h => h)).trans hzc.2.2
      have HBQ : Hid (∀ W, New w W → W.cell? ⟨bq, off + k * 3 + 1, none⟩ = some (.int .i64 (z k).2.1)) := Lib.hid (fun W nW => (nW.cell (a := ⟨bq, off + k * 3 + 1, none⟩) hb (fun h => h)).trans hzc.2.1)
      have HSZ := Lib.hid hzo.2.2
      have hbq := hb
      clear hzc hzo hc hb
      generalize z k = zk at *
      obtain ⟨kd, by_, s⟩ := zk
      dsimp only at *
      have d1 : decide ((k : Int) < (n : Int)) = true := decide_eq_true (by omega)
      have d2 : decide ((k : Int) < 150) = true := decide_eq_true (by omega)
      have j2 : (k : Int) < (n : Int) := by omega
      have hn1 := HLP.out.wl.n1
      have HRI := Lib.hid (HLP.out.rise (by omega) kd by_ s)
      obtain ⟨no, hno⟩ : ∃ no, no = (stepO b kd by_ now s).length := ⟨_, rfl⟩
      have HNO := Lib.hid hno
      clear hno
      have HDO : Hid (∀ W, New wr W → Calls Try.prog 10 #[.agg #[.pointer (some ⟨p, 0, none⟩), .int .i64 b.most, .int .i64 b.wait, .bool b.begun, .int .i64 b.next, .slice ax nx cx, .int .i64 b.lost, .int .i64 now], .agg #[.int .i64 kd, .int .i64 by_, .string s]] W fun e w5 => ∃ a5 n5 c5 ao5 co5, e = .returned (.tuple #[.agg #[.pointer (some ⟨p, 0, none⟩), .int .i64 (stepB b kd by_ now s).most, .int .i64 (stepB b kd by_ now s).wait, .bool (stepB b kd by_ now s).begun, .int .i64 (stepB b kd by_ now s).next, .slice a5 n5 c5, .int .i64 (stepB b kd by_ now s).lost, .int .i64 (stepN kd by_ now)], .slice ao5 no co5, .bool true]) ∧ Dn w W w5 p vb (stepB b kd by_ now s) (.slice a5 n5 c5) (.slice ao5 no co5) (stepO b kd by_ now s) ∧ ∀ q cs, Blk W q cs TS → Blk w5 q cs TS) := Lib.hid (fun W nW => by
        have hl := HLP.out.later nW
        refine (does w W p vb (.slice ax nx cx) b kd now (1031 + 100 * (k : Int)) by_ s hl.wl.own hl.wl.rs hl.wl.fine (by omega) (by omega) hl.wl.n0 (by omega) HSZ.out).mono ?_
        rintro e w5 ⟨v5, u5, rfl, hd⟩
        obtain ⟨a5, n5, c5, hv5, _⟩ := hd.rs.form
        subst hv5
        obtain ⟨ao5, co5, hu5, _⟩ := hd.out.form
        rw [← HNO.out] at hu5
        subst hu5
        exact ⟨a5, n5, c5, ao5, co5, rfl, hd, fun q cs hq => hd.keep hl.wl.own hq⟩)
      have HST : Hid (∀ a5 n5 c5 ao5 co5 wx, Dn w wr wx p vb (stepB b kd by_ now s) (.slice a5 n5 c5) (.slice ao5 no co5) (stepO b kd by_ now s) → Blk wx ps #[.pointer (some ⟨p, 0, none⟩), .int .i64 b.most, .int .i64 b.wait, .bool b.begun, .int .i64 b.next, .slice ax nx cx, .int .i64 b.lost, .int .i64 now] TS ∧ Owns TE RT wx (.slice ao5 no co5) (stepO b kd by_ now s) ∧ ∃ vb', PL w (puts wx ps 0 [.pointer (some ⟨p, 0, none⟩), .int .i64 (stepB b kd by_ now s).most, .int .i64 (stepB b kd by_ now s).wait, .bool (stepB b kd by_ now s).begun, .int .i64 (stepB b kd by_ now s).next, .slice a5 n5 c5, .int .i64 (stepB b kd by_ now s).lost, .int .i64 (stepN kd by_ now)]) ps p vb' (stepB b kd by_ now s) (.slice a5 n5 c5) (stepN kd by_ now) (k + 1) (lastU last (stepO b kd by_ now s) (stepO b kd by_ now s).length)) := Lib.hid (fun a5 n5 c5 ao5 co5 wx hd => by
        obtain ⟨hb5, vb', hw5⟩ := HLP.out.step (by omega) hd
        exact ⟨hb5, hd.out, vb', hw5⟩)
      have HFT : Hid (¬ Foot p vb ps ∧ ¬ Foot p vb bq) := Lib.hid ⟨fun e => by
          rcases e with e | e
          · have k := HLP.out.wl.own.bs.blk
            have k2 := HLP.out.wl.box
            rw [e] at k2
            unfold Blk at k k2
            rw [k] at k2
            injection k2 with k2
            injection k2 with _ k2
            exact absurd k2 (by decide)
          · exact own_ne HLP.out.wl.own.bs.own HLP.out.wl.box (by decide) e, fun e => by
          rcases e with e | e
          · have := HLP.out.wl.own.p0; omega
          · have := HLP.out.wl.own.vb _ e; omega⟩
      have hbl : bq < wr.heap.size := Nat.lt_of_lt_of_le hbq HLP.out.wl.own.n.size
      have HLO : Hid (w.heap.size ≤ wr.heap.size ∧ ps < wr.heap.size) := Lib.hid ⟨HLP.out.wl.own.n.size, HLP.out.wl.box.lt⟩
      obtain ⟨⟨b0, b1, b2, b3, b4, b5, b6, b7⟩, y0, y1, y2, y3, y4, y5, y6, y7⟩ := eight HLP.out.wl.box
      have hpsl := HLP.out.wl.box.lt
      go_upto_region 8 with fail
      go_cut [11, 12, 13] (fun v11 v12 v13 wx => ∃ pt a5 n5 c5 ao5 co5, v11 = .pointer (some ⟨pt, 0, none⟩) ∧ v12 = .slice ao5 no co5 ∧ v13 = .bool true ∧ Blk wx pt #[.pointer (some ⟨p, 0, none⟩), .int .i64 (stepB b kd by_ now s).most, .int .i64 (stepB b kd by_ now s).wait, .bool (stepB b kd by_ now s).begun, .int .i64 (stepB b kd by_ now s).next, .slice a5 n5 c5, .int .i64 (stepB b kd by_ now s).lost, .int .i64 (stepN kd by_ now)] TS ∧ pt ≠ ps ∧ Blk wx ps #[.pointer (some ⟨p, 0, none⟩), .int .i64 b.most, .int .i64 b.wait, .bool b.begun, .int .i64 b.next, .slice ax nx cx, .int .i64 b.lost, .int .i64 now] TS ∧ Owns TE RT wx (.slice ao5 no co5) (stepO b kd by_ now s) ∧ ∃ vb', PL w (puts wx ps 0 [.pointer (some ⟨p, 0, none⟩), .int .i64 (stepB b kd by_ now s).most, .int .i64 (stepB b kd by_ now s).wait, .bool (stepB b kd by_ now s).begun, .int .i64 (stepB b kd by_ now s).next, .slice a5 n5 c5, .int .i64 (stepB b kd by_ now s).lost, .int .i64 (stepN kd by_ now)]) ps p vb' (stepB b kd by_ now s) (.slice a5 n5 c5) (stepN kd by_ now) (k + 1) (lastU last (stepO b kd by_ now s) (stepO b kd by_ now s).length))
      case first =>
        have HH : Hid (HeldP (Foot p vb) wr wr ps bq (off + k * 3) (off + k * 3 + 1) (off + k * 3 + 2) (.pointer (some ⟨p, 0, none⟩)) (.int .i64 b.most) (.int .i64 b.wait) (.bool b.begun) (.int .i64 b.next) (.slice ax nx cx) (.int .i64 b.lost) (.int .i64 now) (.int .i64 kd) (.int .i64 by_) (.string s)) := Lib.hid ⟨Turns.refl _ _, hpsl, hbl, b0, b1, b2, b3, b4, b5, b6, b7, e0, e1, e2⟩
        have hh := HH.out
        go_region_held (fun w' => Turns (Foot p vb) wr w' ∧ ps < w'.heap.size ∧ bq < w'.heap.size ∧ w'.cell? ⟨ps, 0, none⟩ = some (.pointer (some ⟨p, 0, none⟩)) ∧ w'.cell? ⟨ps, 1, none⟩ = some (.int .i64 b.most) ∧ w'.cell? ⟨ps, 2, none⟩ = some (.int .i64 b.wait) ∧ w'.cell? ⟨ps, 3, none⟩ = some (.bool b.begun) ∧ w'.cell? ⟨ps, 4, none⟩ = some (.int .i64 b.next) ∧ w'.cell? ⟨ps, 5, none⟩ = some (.slice ax nx cx) ∧ w'.cell? ⟨ps, 6, none⟩ = some (.int .i64 b.lost) ∧ w'.cell? ⟨ps, 7, none⟩ = some (.int .i64 now)
            ∧ w'.cell? ⟨bq, off + k * 3, none⟩ = some (.int .i64 kd) ∧ w'.cell? ⟨bq, off + k * 3 + 1, none⟩ = some (.int .i64 by_) ∧ w'.cell? ⟨bq, off + k * 3 + 2, none⟩ = some (.string s))
          (first
            | (with_reducible assumption)
            | ((with_reducible refine heldP_drew ?_); with_reducible assumption)
            | ((with_reducible refine heldP_alloc _ ?_); with_reducible assumption)
            | ((with_reducible refine heldP_drew (heldP_alloc _ ?_)); with_reducible assumption)
            | ((with_reducible apply heldP_turns hnq.t HFT.out.1 HFT.out.2); with_reducible assumption)
            | ((with_reducible refine heldP_turns ?_ HFT.out.1 HFT.out.2 HH.out); (repeat (first | (with_reducible refine Turns.alloc ?_ _) | (with_reducible refine Turns.drew ?_) | (with_reducible refine Turns.setCell ?_ (.inr (Nat.le_refl _)) _))); (with_reducible exact (Dn.base (by repeat (first | exact Turns.refl _ _ | apply Turns.alloc | apply Turns.drew)) hnq).t)))
          ((go_at_call 10; (with_reducible refine Calls.mono (HDO.out _ ?_) ?_); (focus ((repeat (first | (with_reducible refine Turns.alloc ?_ _) | (with_reducible refine Turns.drew ?_))); exact Turns.refl _ _)); rintro en wq ⟨a5, n5, c5, ao5, co5, rfl, hnq, hkq⟩; (first | (have hpy := new_p hkq rfl; obtain ⟨⟨z0, z1, z2, z3, z4, z5, z6, z7⟩, g0, g1, g2, g3, g4, g5, g6, g7⟩ := eight hpy) | skip)))
        · have HNQ := Lib.hid (Dn.base (w1 := wr) (by repeat (first | exact Turns.refl _ _ | apply Turns.alloc | apply Turns.drew)) hnq)
          go_wp2_with fail
          go_meet
          case rel => exact ⟨_, a5, n5, c5, ao5, co5, rfl, rfl, rfl, Blk.new _ _ _, Nat.ne_of_gt (Nat.lt_of_lt_of_le HLO.out.2 HNQ.out.t.size), HST.out a5 n5 c5 ao5 co5 _ (HNQ.out.later ((Turns.refl _ _).alloc _))⟩
        · have HNQ := Lib.hid (Dn.base (w1 := wr) (by repeat (first | exact Turns.refl _ _ | apply Turns.alloc | apply Turns.drew)) hnq)
          have HBQ2 := Lib.hid (new_p hkq rfl)
          go_wp2_with fail
          go_meet
          case rel => exact ⟨_, a5, n5, c5, ao5, co5, rfl, rfl, rfl, puts_blk [.pointer none, .int .i64 0, .int .i64 0, .bool false, .int .i64 0, .slice none 0 0, .int .i64 0, .int .i64 0] [.pointer (some ⟨p, 0, none⟩), .int .i64 (stepB b kd by_ now s).most, .int .i64 (stepB b kd by_ now s).wait, .bool (stepB b kd by_ now s).begun, .int .i64 (stepB b kd by_ now s).next, .slice a5 n5 c5, .int .i64 (stepB b kd by_ now s).lost, .int .i64 (stepN kd by_ now)] HBQ2.out rfl, Nat.ne_of_gt HLO.out.2, HST.out a5 n5 c5 ao5 co5 _ (HNQ.out.off HBQ2.out (puts_turns (S := (· = wr.heap.size)) (.inl rfl) [.pointer (some ⟨p, 0, none⟩), .int .i64 (stepB b kd by_ now s).most, .int .i64 (stepB b kd by_ now s).wait, .bool (stepB b kd by_ now s).begun, .int .i64 (stepB b kd by_ now s).next, .slice a5 n5 c5, .int .i64 (stepB b kd by_ now s).lost, .int .i64 (stepN kd by_ now)] 0 _ (Turns.refl _ _)) HLO.out.1 (Nat.le_refl _))⟩
      case rest =>
        obtain ⟨pt, a5, n5, c5, ao5, co5, rfl, rfl, rfl, hbt, hne, hbs, hou, vb', hpl⟩ := hcut
        have HPL := Lib.hid hpl
        have HOU := Lib.hid (Owns.psx (cs := [.pointer (some ⟨p, 0, none⟩), .int .i64 b.most, .int .i64 b.wait, .bool b.begun, .int .i64 b.next, .slice ax nx cx, .int .i64 b.lost, .int .i64 now]) (vs := [.pointer (some ⟨p, 0, none⟩), .int .i64 (stepB b kd by_ now s).most, .int .i64 (stepB b kd by_ now s).wait, .bool (stepB b kd by_ now s).begun, .int .i64 (stepB b kd by_ now s).next, .slice a5 n5 c5, .int .i64 (stepB b kd by_ now s).lost, .int .i64 (stepN kd by_ now)]) hou hbs)
        clear b0 b1 b2 b3 b4 b5 b6 b7 y0 y1 y2 y3 y4 y5 y6 y7 e0 e1 e2 HDO HLP hpl hou
        generalize stepB b kd by_ now s = b' at *
        generalize stepN kd by_ now = now' at *
        generalize stepO b kd by_ now s = O at *
        obtain ⟨⟨t0, t1, t2, t3, t4, t5, t6, t7⟩, _⟩ := eight hbt
        obtain ⟨⟨b0, b1, b2, b3, b4, b5, b6, b7⟩, y0, y1, y2, y3, y4, y5, y6, y7⟩ := eight hbs
        have hpsl := hbs.lt
        have hptl := hbt.lt
        clear hbt hbs
        go_upto_region 9 with fail
        go_cut [] (fun wy => PL w wy ps p vb' b' (.slice a5 n5 c5) now' (k + 1) (lastU last O O.length) ∧ Owns TE RT wy (.slice ao5 no co5) O)
        case first =>
          go_wp2_with fail
          go_meet
          case rel => exact ⟨HPL.out, HOU.out⟩
        case rest =>
          obtain ⟨hpl, hou⟩ := hcut
          generalize wc = wy at *
          clear HPL HOU t0 t1 t2 t3 t4 t5 t6 t7 b0 b1 b2 b3 b4 b5 b6 b7 y0 y1 y2 y3 y4 y5 y6 y7 hpsl hptl hne
          have HPL := Lib.hid hpl
          have HOU := Lib.hid hou
          obtain ⟨a', n', c', hv5, hn5, _, _⟩ := hpl.wl.rs.form
          cases hv5
          have HN5 := Lib.hid hn5
          obtain ⟨⟨b0, b1, b2, b3, b4, b5, b6, b7⟩, _⟩ := eight hpl.wl.box
          clear hpl hou hn5
          have HNX := Lib.hid (next_ p vb' b' wy HPL.out.wl.own.bs)
          go_wp2_with fail
          refine HNX.out.mono ?_
          rintro e w2' ⟨rfl, n2⟩
          have HOL : Hid (no ≤ 9223372036854775807) := Lib.hid (by
            obtain ⟨_, _, _, h1, h2⟩ := Sub.form (HOU.out.sub 0 (fun _ _ => Nat.zero_le _))
            have := HNO.out
            unfold maxLen at h2
            omega)
          have HPL2 := Lib.hid (HPL.out.later n2)
          have HOU2 := Lib.hid (HOU.out.turns n2 (fun _ _ h => h))
          clear b0 b1 b2 b3 b4 b5 b6 b7 n2 HNX HPL HOU
          obtain ⟨⟨b0, b1, b2, b3, b4, b5, b6, b7⟩, _⟩ := eight HPL2.out.wl.box
          have HLEN := Lib.hid (fun W (N : New w2' W) => len_ p vb' b' W (HPL2.out.wl.own.later N).bs)
          have HLOS := Lib.hid (fun W (N : New w2' W) => lost_ p vb' b' W (HPL2.out.wl.own.later N).bs)
          rw [← HN5.out] at HLEN
          have q1 : decide (b'.most < (n5 : Int)) = false := decide_eq_false (by have := HPL2.out.wl.fine.few; have := HN5.out; omega)
          go_upto_region 11 with fail
          go_quiet ((first
            | (go_at_call 12; exact Calls.quiet_of_same (HLEN.out _ ((Turns.refl _ _).drewN _)))
            | (go_at_call 13; exact Calls.quiet_of_same (HLOS.out _ ((Turns.refl _ _).drewN _)))))
          have HPL3 := Lib.hid (HPL2.out.later ((Turns.refl _ w2').drewN nq))
          have HOU3 := Lib.hid (HOU2.out.turns ((Turns.refl (fun _ => False) w2').drewN nq) (fun _ _ h => h))
          clear b0 b1 b2 b3 b4 b5 b6 b7 q1 HLEN HLOS HPL2 HOU2
          generalize w2'.drewN nq = w4 at *
          go_wp2_with fail
          go_loopw [9, 107] (fun l i wx => ∃ j : Nat, j ≤ no ∧ l = .int .i64 (lastU last O j) ∧ i = .int .i64 j ∧ New w4 wx) (fun _ i _ => no - (intOf i).toNat)
          case atStart => exact ⟨0, Nat.zero_le _, rfl, rfl, Turns.refl _ _⟩
          case round =>
            obtain ⟨j, hj, rfl, rfl, hnx⟩ := hrel
            have HNX := Lib.hid hnx
            clear hnx
            by_cases hjn : j < no
            · obtain ⟨x, hx⟩ : ∃ x, O[j]? = some x := ⟨_, List.getElem?_eq_getElem (by have := HNO.out; omega)⟩
              have hrise : lastU last O j < x.at_ := by
                obtain ⟨h1, h2⟩ := List.getElem?_eq_some_iff.1 hx
                rw [← h2]; exact HRI.out.1 j h1
              have HLS : Hid (lastU last O (j + 1) = x.at_) := Lib.hid (by
                obtain ⟨h1, h2⟩ := List.getElem?_eq_some_iff.1 hx
                rw [← h2]; exact lastU_succ last O j h1)
              obtain ⟨g, hg, hcell⟩ := own_at (HOU3.out.turns HNX.out (fun _ _ h => h)) hx
              subst hg
              have z0 := hcell 0 _ rfl
              have z1 := hcell 1 _ rfl
              have z2 := hcell 2 _ rfl
              change wr.cell? ⟨g, j * 3, none⟩ = some (.int .i64 x.at_) at z0
              change wr.cell? ⟨g, j * 3 + 1, none⟩ = some (.string x.tx) at z1
              change wr.cell? ⟨g, j * 3 + 2, none⟩ = some (.int .i64 x.tick) at z2
              have d3 : decide ((j : Int) < (no : Int)) = true := decide_eq_true (by omega)
              have d4 : decide (x.at_ ≤ lastU last O j) = false := decide_eq_false (by omega)
              have j3 : (j : Int) < (no : Int) := by omega
              have s1 : IntKind.i64.wrap ((j : Int) + 1) = (j : Int) + 1 := IntWalk.i64_in _ (by have := HOL.out; omega)
              clear hx hcell hrise
              generalize lastU last O j = lj at *
              go_upto_region 16 with fail
              have HB : Hid (Blk (wr.alloc (.cells #[.int .i64 x.at_, .string x.tx, .int .i64 x.tick] RT)) wr.heap.size #[.int .i64 x.at_, .string x.tx, .int .i64 x.tick] RT) := Lib.hid (Blk.new _ _ _)
              have HN6 : Hid (New w4 (wr.alloc (.cells #[.int .i64 x.at_, .string x.tx, .int .i64 x.tick] RT))) := Lib.hid (HNX.out.alloc _)
              refine (show Code.wp _ _ _ _ (wr.alloc (.cells #[.int .i64 x.at_, .string x.tx, .int .i64 x.tick] RT)) from ?_)
              generalize wr.alloc (.cells #[.int .i64 x.at_, .string x.tx, .int .i64 x.tick] RT) = w6 at *
              generalize wr.heap.size = px at *
              clear z0 z1 z2
              have z0 : w6.cell? ⟨px, 0, none⟩ = some (.int .i64 x.at_) := HB.out.cell 0
              go_wp2_with fail
              go_roundw
              case rel => exact ⟨j + 1, by omega, by rw [HLS.out], by push_cast; go_num, HN6.out⟩
              case measure => simp [intOf]; omega
            · have HLA : Hid (lastU last O j = lastU last O O.length) := Lib.hid (by rw [show j = O.length by have := HNO.out; omega])
              have d3 : decide ((j : Int) < (no : Int)) = false := decide_eq_false (by omega)
              have d3' : decide (j < no) = false := decide_eq_false hjn
              have HPL4 := Lib.hid (HPL3.out.later HNX.out)
              clear hjn hj HOU3
              rw [← HLA.out] at HPL4
              generalize lastU last O j = lj at *
              have e1 := HBQ.out _ HPL4.out.wl.own.n
              have M3 := mask.mask3 by_
              have HK8 : Hid (0 ≤ by_ % 8 ∧ by_ % 8 ≤ 1000) := Lib.hid (by omega)
              generalize by_ % 8 = k8 at *
              obtain ⟨⟨b0, b1, b2, b3, b4, b5, b6, b7⟩, _⟩ := eight HPL4.out.wl.box
              obtain ⟨ms, hms⟩ : ∃ ms, ms = (missA b').take k8.toNat := ⟨_, rfl⟩
              obtain ⟨nm, hnm⟩ : ∃ nm, nm = ms.length := ⟨_, rfl⟩
              have HMS := Lib.hid hms
              have HNM := Lib.hid hnm
              have HNB : Hid (nm ≤ 1000) := Lib.hid (by rw [hnm, hms, List.length_take]; have := HK8.out; omega)
              have HM1 : Hid (∀ W, New wr W → Calls Try.prog 14 #[.pointer (some ⟨p, 0, none⟩), .int .i64 k8] W fun e w5 => ∃ am cm, e = .returned (.slice am nm cm) ∧ Gr IE JT W w5 (.slice am nm cm) ms) := Lib.hid (fun W N => by
                have hl := HPL4.out.later N
                refine (missing_ p vb' b' k8 (1031 + 100 * ((k + 1 : Nat) : Int)) W hl.wl.own.bs hl.wl.fine.ok (by omega) HK8.out.2).mono ?_
                rintro e w5 ⟨u, rfl, g⟩
                rw [← HMS.out] at g
                obtain ⟨am, cm, hu, _⟩ := g.own.form
                rw [← HNM.out] at hu
                subst hu
                exact ⟨am, cm, rfl, g⟩)
              have HM2 : Hid (∀ W, New wr W → Calls Try.prog 15 #[.agg #[.int .i64 b'.most, .int .i64 b'.wait, .bool b'.begun, .int .i64 b'.next, .slice a5 n5 c5, .int .i64 b'.lost], .int .i64 k8] W fun e w5 => ∃ am cm, e = .returned (.slice am nm cm) ∧ Gr IE JT W w5 (.slice am nm cm) ms) := Lib.hid (fun W N => by
                have hl := HPL4.out.later N
                refine (rmissing (.slice a5 n5 c5) b' k8 (1031 + 100 * ((k + 1 : Nat) : Int)) W hl.wl.rs hl.wl.fine.ok (by omega) HK8.out.1 HK8.out.2).mono ?_
                rintro e w5 ⟨u, rfl, g⟩
                rw [← HMS.out] at g
                obtain ⟨am, cm, hu, _⟩ := g.own.form
                rw [← HNM.out] at hu
                subst hu
                exact ⟨am, cm, rfl, g⟩)
              clear hms hnm
              go_upto_region 21 with fail
              go_cut [19, 20] (fun v19 v20 wx => ∃ a1 c1 a2 c2, v19 = .slice a1 nm c1 ∧ v20 = .slice a2 nm c2 ∧ New wr wx ∧ Owns IE JT wx (.slice a1 nm c1) ms ∧ Owns IE JT wx (.slice a2 nm c2) ms)
              case first =>
                clear e1
                go_region_with ((first
                  | (go_at_call 14; (with_reducible refine Calls.mono (HM1.out _ ?_) ?_); (focus (first | exact (Turns.refl _ _).drew | exact HNB2.out)); rintro e wA ⟨a1, c1, rfl, g1⟩; have HNA2 : Hid (New wr wA) := Lib.hid (by first | exact Turns.seq ((Turns.refl _ wr).drew) g1.n | exact Turns.seq HNB2.out g1.n); obtain ⟨⟨x0, x1, x2, x3, x4, x5, x6, x7⟩, _⟩ := eight (HPL4.out.later HNA2.out).wl.box; have HG1 := Lib.hid g1; clear g1)
                  | (go_at_call 15; (with_reducible refine Calls.mono (HM2.out _ ?_) ?_); (focus (first | exact (Turns.refl _ _).drew | exact HNA2.out)); rintro e wB ⟨a2, c2, rfl, g2⟩; have HNB2 : Hid (New wr wB) := Lib.hid (by first | exact Turns.seq ((Turns.refl _ wr).drew) g2.n | exact Turns.seq HNA2.out g2.n); obtain ⟨⟨x0, x1, x2, x3, x4, x5, x6, x7⟩, _⟩ := eight (HPL4.out.later HNB2.out).wl.box; have HG2 := Lib.hid g2; clear g2)))
                all_goals
                  go_wp2_with fail
                  go_meet
                  case rel => first
                    | exact ⟨a1, c1, a2, c2, rfl, rfl, HNB2.out, HG1.out.own.turns HG2.out.n (fun _ _ h => h), HG2.out.own⟩
                    | exact ⟨a1, c1, a2, c2, rfl, rfl, HNA2.out, HG1.out.own, HG2.out.own.turns HG1.out.n (fun _ _ h => h)⟩
              case rest =>
                generalize wc = wz at *
                obtain ⟨a1, c1, a2, c2, rfl, rfl, hn9, ho1, ho2⟩ := hcut
                have HPL5 := Lib.hid (HPL4.out.later hn9)
                have HO1 := Lib.hid ho1
                have HO2 := Lib.hid ho2
                clear b0 b1 b2 b3 b4 b5 b6 b7 HM1 HM2 HPL4 HPL3 hn9 ho1 ho2 e1
                go_wp2_with fail
                go_loopw [139] (fun i wx => ∃ j : Nat, j ≤ nm ∧ i = .int .i64 j ∧ New wz wx) (fun i _ => nm - (intOf i).toNat)
                case atStart => exact ⟨0, Nat.zero_le _, rfl, Turns.refl _ _⟩
                case round =>
                  obtain ⟨i, hi, rfl, hnx⟩ := hrel
                  have HNY := Lib.hid hnx
                  clear hnx
                  by_cases hin : i < nm
                  · obtain ⟨x, hx⟩ : ∃ x, ms[i]? = some x := ⟨_, List.getElem?_eq_getElem (by have := HNM.out; omega)⟩
                    obtain ⟨g1, hg1, z1⟩ := own_at1 (HO1.out.turns HNY.out (fun _ _ h => h)) hx
                    obtain ⟨g2, hg2, z2⟩ := own_at1 (HO2.out.turns HNY.out (fun _ _ h => h)) hx
                    subst hg1 hg2
                    have d3 : decide ((i : Int) < (nm : Int)) = true := decide_eq_true (by omega)
                    have j3 : (i : Int) < (nm : Int) := by omega
                    have s1 : IntKind.i64.wrap ((i : Int) + 1) = (i : Int) + 1 := IntWalk.i64_in _ (by have := HNB.out; omega)
                    clear hx
                    go_upto_region 27 with fail
                    go_quiet (fail)
                    have HN7 := Lib.hid (HNY.out.drewN nq)
                    go_wp2_with fail
                    go_roundw
                    case rel => exact ⟨i + 1, by omega, by push_cast; go_num, HN7.out⟩
                    case measure => simp [intOf]; omega
                  · have d3 : decide ((i : Int) < (nm : Int)) = false := decide_eq_false (by omega)
                    have d3' : decide (i < nm) = false := decide_eq_false hin
                    have s1 : IntKind.i64.wrap ((k : Int) + 1) = (k : Int) + 1 := IntWalk.i64_in _ (by omega)
                    clear hin hi
                    go_wp2_with fail
                    go_roundw
                    case rel => exact ⟨k + 1, _, _, _, _, _, by omega, by omega, rfl, by go_num, HPL5.out.later HNY.out⟩
                    case measure => simp [intOf]; omega
    · have hx : ¬ k < n ∨ (k < n ∧ ¬ k < 150) := by omega
      clear hgo
      rcases hx with h1 | ⟨h1, h2⟩
      · have d1 : decide ((k : Int) < (n : Int)) = false := decide_eq_false (by omega)
        go_wp2
        go_ret
        exact ⟨rfl, HLP.out.wl.own.below⟩
      · have d1 : decide ((k : Int) < (n : Int)) = true := decide_eq_true (by omega)
        have d2 : decide ((k : Int) < 150) = false := decide_eq_false (by omega)
        go_wp2
        go_ret
        exact ⟨rfl, HLP.out.wl.own.below⟩
end Go.Proofs.Ytfgfejcnkjeghaa.reo
