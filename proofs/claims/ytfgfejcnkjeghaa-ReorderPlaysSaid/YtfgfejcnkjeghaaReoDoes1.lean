/-
  'Does' of layer 9's laws: Put.
-/
import Derived.Test.YtfgfejcnkjeghaaReoSame
import Derived.Test.YtfgfejcnkjeghaaCut
import Derived.Deep.RegionHeld3
namespace Go.Proofs.Ytfgfejcnkjeghaa.reo
open Go.RowKit mem
set_option linter.unusedVariables false

abbrev AT : TypeId := 35
/-- where the thing of an act stands -/
def atF (b : B) (by_ : Int) : Int := if b.begun then (if b.next + by_ % 32 - 8 < 0 then 0 else b.next + by_ % 32 - 8) else 1000 + by_ % 32
def thF (b : B) (by_ now : Int) (s : ByteArray) : Th := ⟨atF b by_, cutl.cutS s 10, now⟩
/-- what Does leaves -/
structure Dn (w0 w w' : World) (p : Nat) (vb : Value) (b' : B) (v' u : Value) (o : List Th) : Prop where
  own : ∃ vb', Own w0 w' p vb' b'
  rs : RS w' v' b'.L
  t : Turns (Foot p vb) w w'
  out : Owns TE RT w' u o
theorem Blk.two {w w' : World} {p q : Nat} {v v' vo : Value} {b b' : B} {o : List Th} {cs : Array Value} {T : TypeId} (h : Blk w q cs T) (k : Two w p v w' v' b' vo o) (hb : Bs w p v b) (h1 : T ≠ BT) (h2 : T ≠ PT) : Blk w' q cs T :=
  k.t.blk h (fun e => by
    rcases e with e | e
    · subst e
      have k := hb.blk
      unfold Blk at h k
      rw [h] at k
      injection k with k
      injection k with _ k
      exact h1 k
    · exact own_ne hb.own h (fun e => h2 e.symm) e)
/-- what the region that makes the thing holds on to -/
abbrev HeldC (w w' : World) (ps pa : Nat) (c7 a2 : Value) : Prop :=
  New w w' ∧ ps < w'.heap.size ∧ pa < w'.heap.size ∧ w'.cell? ⟨ps, 7, none⟩ = some c7 ∧ w'.cell? ⟨pa, 2, none⟩ = some a2
theorem heldC_drew {w w' : World} {ps pa : Nat} {c7 a2 : Value} (h : HeldC w w' ps pa c7 a2) : HeldC w w'.drew ps pa c7 a2 := by
  obtain ⟨hn, h⟩ := h
  exact ⟨hn.drew, h⟩
theorem heldC_alloc {w w1 : World} {ps pa : Nat} {c7 a2 : Value} (x : Obj) (h : HeldC w w1 ps pa c7 a2) : HeldC w (w1.alloc x) ps pa c7 a2 := by
  obtain ⟨hn, hl, hb, h0, h1⟩ := h
  have k : New w1 (w1.alloc x) := (Turns.refl _ _).alloc x
  exact ⟨hn.alloc _, Nat.lt_of_lt_of_le hl k.size, Nat.lt_of_lt_of_le hb k.size, (k.cell (a := ⟨ps, 7, none⟩) hl (fun h => h)).trans h0, (k.cell (a := ⟨pa, 2, none⟩) hb (fun h => h)).trans h1⟩

theorem loopO_len (c : B → Bool) : ∀ (n : Nat) (b : B), (loopO c n b).length + (loopB c n b).L.length = b.L.length
  | 0, b => by simp [loopO, loopB]
  | n + 1, b => by
    rw [loopO, loopB]
    split
    · have := loopO_len c n (skip b)
      have := skip_split b
      rw [List.length_append]
      omega
    · simp
theorem lpO_len (c : B → Bool) (b : B) : (lpO c b).length ≤ b.L.length := by have := loopO_len c b.L.length b; unfold lpO; omega
theorem putO_len {b : B} {M : Int} (h : Fine b M) (x : Th) : (putO b x).length ≤ 1000000 := by
  unfold putO
  split
  · have h1 := follow_split (put1 b x)
    have h2 := lpO_len overF (follow (put1 b x))
    have h3 : (put1 b x).L.length = b.L.length + 1 := insT_length x b.L
    have := h.len
    rw [List.length_append]
    omega
  · simp
/-- what the last statements of Does hold on to -/
abbrev HeldE (w w' : World) (pr ps : Nat) (c0 c1 c2 c3 c4 c5 c6 c7 : Value) : Prop :=
  Turns (· = pr) w w' ∧ ps < w'.heap.size ∧ w'.cell? ⟨ps, 0, none⟩ = some c0 ∧ w'.cell? ⟨ps, 1, none⟩ = some c1 ∧ w'.cell? ⟨ps, 2, none⟩ = some c2 ∧ w'.cell? ⟨ps, 3, none⟩ = some c3 ∧ w'.cell? ⟨ps, 4, none⟩ = some c4 ∧ w'.cell? ⟨ps, 5, none⟩ = some c5 ∧ w'.cell? ⟨ps, 6, none⟩ = some c6 ∧ w'.cell? ⟨ps, 7, none⟩ = some c7
section
variable {w w1 w2 : World} {pr ps : Nat} {c0 c1 c2 c3 c4 c5 c6 c7 : Value}
theorem heldE_new (n : New w1 w2) (h : HeldE w w1 pr ps c0 c1 c2 c3 c4 c5 c6 c7) : HeldE w w2 pr ps c0 c1 c2 c3 c4 c5 c6 c7 := by
  obtain ⟨hn, hl, h0, h1, h2, h3, h4, h5, h6, h7⟩ := h
  have c := fun i => n.cell (a := ⟨ps, i, none⟩) hl (fun h => h)
  exact ⟨hn.trans (n.mono (fun _ _ h => h.elim)), Nat.lt_of_lt_of_le hl n.size, (c 0).trans h0, (c 1).trans h1, (c 2).trans h2, (c 3).trans h3, (c 4).trans h4, (c 5).trans h5, (c 6).trans h6, (c 7).trans h7⟩
theorem heldE_store (hne : ps ≠ pr) (v0 v1 v2 v3 v4 v5 v6 v7 : Value) (h : HeldE w w1 pr ps c0 c1 c2 c3 c4 c5 c6 c7) :
    HeldE w ((((((((w1.setCell ⟨pr, 0, none⟩ v0).setCell ⟨pr, 1, none⟩ v1).setCell ⟨pr, 2, none⟩ v2).setCell ⟨pr, 3, none⟩ v3).setCell ⟨pr, 4, none⟩ v4).setCell ⟨pr, 5, none⟩ v5).setCell ⟨pr, 6, none⟩ v6).setCell ⟨pr, 7, none⟩ v7) pr ps c0 c1 c2 c3 c4 c5 c6 c7 := by
  obtain ⟨hn, hl, h0, h1, h2, h3, h4, h5, h6, h7⟩ := h
  have n := puts_turns (S := (· = pr)) (p := pr) (.inl rfl) [v0, v1, v2, v3, v4, v5, v6, v7] 0 w1 (Turns.refl _ _)
  have c := fun i => n.cell (a := ⟨ps, i, none⟩) hl hne
  exact ⟨hn.trans (n.mono (fun _ _ h => .inl h)), Nat.lt_of_lt_of_le hl n.size, (c 0).trans h0, (c 1).trans h1, (c 2).trans h2, (c 3).trans h3, (c 4).trans h4, (c 5).trans h5, (c 6).trans h6, (c 7).trans h7⟩
theorem heldE_drew (h : HeldE w w1 pr ps c0 c1 c2 c3 c4 c5 c6 c7) : HeldE w w1.drew pr ps c0 c1 c2 c3 c4 c5 c6 c7 := heldE_new (Turns.refl _ _).drew h
end
theorem Own.turnps {w0 w5 w6 : World} {p ps : Nat} {vb : Value} {b : B} {cs : Array Value} (h : Own w0 w5 p vb b) (hb : Blk w5 ps cs TS) (t : Turns (· = ps) w5 w6) (hw : w0.heap.size ≤ ps) : Own w0 w6 p vb b := by
  refine ⟨h.bs.turns t (fun e => ?_) (fun g hg e => own_ne h.bs.own hb (by decide) (by rw [hg, e])), h.n.trans (t.mono (fun i _ hi => .inr (by rw [hi]; exact hw))), h.p0, h.vb⟩
  have k := h.bs.blk
  rw [e] at k
  unfold Blk at hb k
  rw [hb] at k
  injection k with k
  injection k with _ k
  exact absurd k (by decide)
/-- the result's block is stored: what is left -/
theorem Dn.store {w0 w w6 w9 : World} {p pr : Nat} {vb vb' v' u : Value} {b' : B} {o : List Th} {cs zs : List Value} (ho : Own w0 w6 p vb' b') (hr : RS w6 v' b'.L) (t6 : Turns (Foot p vb) w w6) (hou : Owns TE RT w6 u o) (hps : Blk w6 pr cs.toArray TS) (hge : w.heap.size ≤ pr) (hw0 : w0.heap.size ≤ pr) (n9 : New w6 w9) (hl : zs.length = cs.length) :
    Blk (puts w9 pr 0 zs) pr zs.toArray TS ∧ Dn w0 w (puts w9 pr 0 zs) p vb b' v' u o := by
  have h9 := n9.blk hps (fun h => h)
  have t1 : Turns (· = pr) w9 (puts w9 pr 0 zs) := puts_turns (S := (· = pr)) (.inl rfl) _ 0 _ (Turns.refl _ _)
  have o9 := ho.later n9
  have r9 := hr.later n9
  have u9 := hou.turns n9 (fun _ _ h => h)
  refine ⟨puts_blk cs _ h9 hl, ⟨⟨vb', ⟨o9.bs.turns t1 (fun e => ?_) (fun g hg e => own_ne o9.bs.own h9 (by decide) (by rw [hg, e])), o9.n.trans (t1.mono (fun i _ hi => .inr (by rw [hi]; exact hw0))), o9.p0, o9.vb⟩⟩, r9.turns t1 (fun g hg e => r9.off h9 (by decide) (by rw [hg, e])), (t6.trans (n9.mono (fun _ _ h => h.elim))).trans (t1.mono (fun i _ hi => .inr (by rw [hi]; exact hge))), u9.turns t1 (fun g hg e => own_ne u9 h9 (by decide) (by rw [hg, e]))⟩⟩
  have k := o9.bs.blk
  rw [e] at k
  unfold Blk at h9 k
  rw [h9] at k
  injection k with k
  injection k with _ k
  exact absurd k (by decide)

set_option maxRecDepth 100000 in
set_option maxHeartbeats 4000000 in
theorem does1 (w0 w : World) (p : Nat) (vb v : Value) (b : B) (now M by_ : Int) (s : ByteArray) (h : Own w0 w p vb b) (hr : RS w v b.L) (hf : Fine b M) (hM : M + 100 ≤ 1099511627776) (hM0 : 1031 ≤ M) (n0 : 0 ≤ now) (n1 : now ≤ 1099511627776) (hs : s.size ≤ maxLen) :
    Calls Try.prog 10 #[.agg (stL p b v now).toArray, .agg #[.int .i64 1, .int .i64 by_, .string s]] w fun e w' => ∃ v' u, e = .returned (.tuple #[.agg (stL p (putB b (thF b by_ now s)) v' now).toArray, u, .bool true]) ∧ Dn w0 w w' p vb (putB b (thF b by_ now s)) v' u (putO b (thF b by_ now s)) := by
  have HO := Lib.hid h
  have HR := Lib.hid hr
  have HF := Lib.hid hf
  obtain ⟨ax, nx, cx, hv, hnx, q1, q2⟩ := hr.form
  have n01 := hf.ok.n1
  have n02 := hf.ok.n2
  clear h hr hf hnx q1 q2
  subst hv
  have M5 := mask.mask5 by_
  have HAT : Hid (atF b by_ = if b.begun then (if b.next + by_ % 32 - 8 < 0 then 0 else b.next + by_ % 32 - 8) else 1000 + by_ % 32) := Lib.hid rfl
  have HTF : Hid (thF b by_ now s = ⟨atF b by_, cutl.cutS s 10, now⟩) := Lib.hid rfl
  have HATB : Hid (0 ≤ atF b by_ ∧ atF b by_ ≤ M + 100) := Lib.hid (by unfold atF; split <;> (try split) <;> omega)
  have HCUT : Hid (∀ w, Calls Try.prog 19 #[.string s, .int .i64 10] w fun en w' => en = .returned (.string (cutl.cutS s 10)) ∧ w = w') := Lib.hid (fun w => cutl.cut s 10 (by decide) w)
  have hsb : Blk (((w.alloc (.cells #[.pointer (some ⟨p, 0, none⟩), .int .i64 b.most, .int .i64 b.wait, .bool b.begun, .int .i64 b.next, .slice ax nx cx, .int .i64 b.lost, .int .i64 now] TS)).alloc (.cells #[.int .i64 1, .int .i64 by_, .string s] AT)).alloc (.cells zsL.toArray TS)) w.heap.size #[.pointer (some ⟨p, 0, none⟩), .int .i64 b.most, .int .i64 b.wait, .bool b.begun, .int .i64 b.next, .slice ax nx cx, .int .i64 b.lost, .int .i64 now] TS := ((Blk.new _ _ _).alloc _).alloc _
  have hab : Blk (((w.alloc (.cells #[.pointer (some ⟨p, 0, none⟩), .int .i64 b.most, .int .i64 b.wait, .bool b.begun, .int .i64 b.next, .slice ax nx cx, .int .i64 b.lost, .int .i64 now] TS)).alloc (.cells #[.int .i64 1, .int .i64 by_, .string s] AT)).alloc (.cells zsL.toArray TS)) (w.heap.size + 1) #[.int .i64 1, .int .i64 by_, .string s] AT := (Blk.new' _ _ _ _ (by simp)).alloc _
  have hrb : Blk (((w.alloc (.cells #[.pointer (some ⟨p, 0, none⟩), .int .i64 b.most, .int .i64 b.wait, .bool b.begun, .int .i64 b.next, .slice ax nx cx, .int .i64 b.lost, .int .i64 now] TS)).alloc (.cells #[.int .i64 1, .int .i64 by_, .string s] AT)).alloc (.cells zsL.toArray TS)) (w.heap.size + 1 + 1) zsL.toArray TS := Blk.new' _ _ _ _ (by simp)
  have hn1 : New w (((w.alloc (.cells #[.pointer (some ⟨p, 0, none⟩), .int .i64 b.most, .int .i64 b.wait, .bool b.begun, .int .i64 b.next, .slice ax nx cx, .int .i64 b.lost, .int .i64 now] TS)).alloc (.cells #[.int .i64 1, .int .i64 by_, .string s] AT)).alloc (.cells zsL.toArray TS)) := (((Turns.refl _ _).alloc _).alloc _).alloc _
  have HSB := Lib.hid hsb
  have HAB := Lib.hid hab
  have HRB := Lib.hid hrb
  have HN1 := Lib.hid hn1
  clear hsb hab hrb hn1
  unfold stL
  go_enter Try.func10, Try.ntmps10
  go_upto_region 1 with fail
  refine (show Code.wp _ _ _ _ (((w.alloc (.cells #[.pointer (some ⟨p, 0, none⟩), .int .i64 b.most, .int .i64 b.wait, .bool b.begun, .int .i64 b.next, .slice ax nx cx, .int .i64 b.lost, .int .i64 now] TS)).alloc (.cells #[.int .i64 1, .int .i64 by_, .string s] AT)).alloc (.cells zsL.toArray TS)) from ?_)
  generalize ((w.alloc (.cells #[.pointer (some ⟨p, 0, none⟩), .int .i64 b.most, .int .i64 b.wait, .bool b.begun, .int .i64 b.next, .slice ax nx cx, .int .i64 b.lost, .int .i64 now] TS)).alloc (.cells #[.int .i64 1, .int .i64 by_, .string s] AT)).alloc (.cells zsL.toArray TS) = w1 at *
  have HPP : Hid (w.heap.size ≤ w.heap.size ∧ w.heap.size ≤ w.heap.size + 1 ∧ w.heap.size ≤ w.heap.size + 1 + 1 ∧ w.heap.size ≠ w.heap.size + 1 ∧ w.heap.size ≠ w.heap.size + 1 + 1 ∧ w.heap.size + 1 ≠ w.heap.size + 1 + 1) := Lib.hid (by omega)
  generalize w.heap.size + 1 + 1 = pr at *
  generalize w.heap.size + 1 = pa at *
  generalize hps : w.heap.size = ps at *
  have HPS := Lib.hid hps
  clear hps
  obtain ⟨⟨b0, b1, b2, b3, b4, b5, b6, b7⟩, z0, z1, z2, z3, z4, z5, z6, z7⟩ := eight HSB.out
  have a0 : w1.cell? ⟨pa, 0, none⟩ = some (.int .i64 1) := HAB.out.cell 0
  have a1 : w1.cell? ⟨pa, 1, none⟩ = some (.int .i64 by_) := HAB.out.cell 1
  have a2 : w1.cell? ⟨pa, 2, none⟩ = some (.string s) := HAB.out.cell 2
  have hb32 : 0 ≤ by_ % 32 ∧ by_ % 32 < 32 := by omega
  obtain ⟨hb0, hb1⟩ := hb32
  generalize by_ % 32 = m32 at *
  have s1 : IntKind.i64.wrap (b.next + m32) = b.next + m32 := IntWalk.i64_in _ (by omega)
  have s2 : IntKind.i64.wrap (b.next + m32 - 8) = b.next + m32 - 8 := IntWalk.i64_in _ (by omega)
  have s3 : IntKind.i64.wrap (1000 + m32) = 1000 + m32 := IntWalk.i64_in _ (by omega)
  generalize (Value.agg #[.pointer (some ⟨p, 0, none⟩), .int .i64 b.most, .int .i64 b.wait, .bool b.begun, .int .i64 b.next, .slice ax nx cx, .int .i64 b.lost, .int .i64 now]) = arg0 at *
  generalize (Value.agg #[.int .i64 1, .int .i64 by_, .string s]) = arg1 at *
  obtain ⟨mx, hmx⟩ : ∃ mx, (if b.next + m32 - 8 < 0 then 0 else b.next + m32 - 8) = mx := ⟨_, rfl⟩
  have hmx2 : max (b.next + m32 - 8) 0 = mx := by rw [← hmx]; split <;> omega
  rw [hmx] at HAT
  go_upto_if 37 with fail
  go_cut [7] (fun v wx => v = .int .i64 (atF b by_) ∧ wx = w1)
  case first =>
    have HAT2 := HAT.out
    rcases Bool.eq_false_or_eq_true b.begun with hb | hb
    · have HA3 : Hid (atF b by_ = mx) := Lib.hid (by rw [HAT2, hb]; rfl)
      rw [hb] at b3 ⊢
      clear hb HAT2 HAT
      go_wp2_with fail
      go_meet
      case rel => exact ⟨by rw [HA3.out], rfl⟩
    · have HA3 : Hid (atF b by_ = 1000 + m32) := Lib.hid (by rw [HAT2, hb]; rfl)
      rw [hb] at b3 ⊢
      clear hb HAT2 HAT
      go_wp2_with fail
      go_meet
      case rel => exact ⟨by rw [HA3.out], rfl⟩
  case rest =>
    obtain ⟨rfl, hwc⟩ := hcut
    subst hwc
    clear hmx hmx2 s1 s2 s3
    obtain ⟨ha0, ha1⟩ := HATB.out
    generalize hat : atF b by_ = at_ at *
    generalize hcs : cutl.cutS s 10 = cs at *
    go_upto_region 6 with fail
    go_cut [8] (fun v wx => ∃ px, v = .pointer (some ⟨px, 0, none⟩) ∧ Blk wx px #[.int .i64 at_, .string cs, .int .i64 now] RT ∧ New wc wx)
    case first =>
      have hpsl := HSB.out.lt
      have hpal := HAB.out.lt
      have HH0 : HeldC wc wc ps pa (.int .i64 now) (.string s) := ⟨Turns.refl _ _, hpsl, hpal, b7, a2⟩
      go_region_held3 (fun w' => New wc w' ∧ ps < w'.heap.size ∧ pa < w'.heap.size ∧ w'.cell? ⟨ps, 7, none⟩ = some (.int .i64 now) ∧ w'.cell? ⟨pa, 2, none⟩ = some (.string s))
        (first
          | (with_reducible assumption)
          | ((with_reducible refine heldC_drew ?_); with_reducible assumption)
          | ((with_reducible refine heldC_alloc _ ?_); with_reducible assumption)
          | ((with_reducible refine heldC_drew (heldC_alloc _ ?_)); with_reducible assumption))
        ((go_at_call 19; (with_reducible refine Calls.mono (HCUT.out _) ?_); rintro e w6 ⟨rfl, hww⟩; subst hww))
      all_goals
        go_wp2_with fail
        go_meet
        case rel => exact ⟨_, rfl, (Blk.new _ _ _).drew, ((Turns.refl _ _).alloc _).drew⟩
    case rest =>
      obtain ⟨px, rfl, hbx, hnx⟩ := hcut
      rename World => w2
      have HB2 := Lib.hid (hnx.blk HSB.out (fun h => h))
      have HR2 := Lib.hid (hnx.blk HRB.out (fun h => h))
      have HX2 := Lib.hid hbx
      have HN2 := Lib.hid (HN1.out.trans (hnx.mono (fun _ _ h => h.elim)))
      have HO2 := Lib.hid (HO.out.later HN2.out)
      have HRS2 := Lib.hid (HR.out.later HN2.out)
      have HTH : Hid (thF b by_ now s = ⟨at_, cs, now⟩) := HTF
      clear b0 b1 b2 b3 b4 b5 b6 b7 z0 z1 z2 z3 z4 z5 z6 z7 a0 a1 a2 hbx hnx HSB HAB HRB HCUT HTF
      obtain ⟨⟨b0, b1, b2, b3, b4, b5, b6, b7⟩, z0, z1, z2, z3, z4, z5, z6, z7⟩ := eight HB2.out
      have x0 : w2.cell? ⟨px, 0, none⟩ = some (.int .i64 at_) := HX2.out.cell 0
      have x1 : w2.cell? ⟨px, 1, none⟩ = some (.string cs) := HX2.out.cell 1
      have x2 : w2.cell? ⟨px, 2, none⟩ = some (.int .i64 now) := HX2.out.cell 2
      have HFM := Lib.hid (HF.out.mono (show M ≤ M + 100 by omega))
      have HPUT := Lib.hid (put_ p vb b ⟨at_, cs, now⟩ (M + 100) w2 HO2.out.bs HFM.out.ok HFM.out.fr hM HFM.out.len ha0 ha1 n0 n1)
      go_wp2_with fail
      refine HPUT.out.mono ?_
      rintro e w3 ⟨vb3, vo3, rfl, t3⟩
      have T3 := Lib.hid t3
      have hb3 := Blk.two HB2.out t3 HO2.out.bs (by decide) (by decide)
      have hx3 := Blk.two HX2.out t3 HO2.out.bs (by decide) (by decide)
      have hr3 := Blk.two HR2.out t3 HO2.out.bs (by decide) (by decide)
      have HRS3 := Lib.hid (RS.two (wx := w2) HRS2.out t3 HO2.out.bs)
      have HO3 := Lib.hid (HO2.out.lft t3)
      obtain ⟨ap, cp, hvp, _⟩ := t3.out.form
      clear b0 b1 b2 b3 b4 b5 b6 b7 z0 z1 z2 z3 z4 z5 z6 z7 x0 x1 x2 HPUT t3
      have HB3 := Lib.hid hb3
      have HR3 := Lib.hid hr3
      obtain ⟨⟨b0, b1, b2, b3, b4, b5, b6, b7⟩, z0, z1, z2, z3, z4, z5, z6, z7⟩ := eight hb3
      have x0 : w3.cell? ⟨px, 0, none⟩ = some (.int .i64 at_) := hx3.cell 0
      have x1 : w3.cell? ⟨px, 1, none⟩ = some (.string cs) := hx3.cell 1
      have x2 : w3.cell? ⟨px, 2, none⟩ = some (.int .i64 now) := hx3.cell 2
      clear hb3 hx3 hr3
      have HRP : Hid (Calls Try.prog 20 #[.agg #[.int .i64 b.most, .int .i64 b.wait, .bool b.begun, .int .i64 b.next, .slice ax nx cx, .int .i64 b.lost], .agg #[.int .i64 at_, .string cs, .int .i64 now]] w3 fun e w' => ∃ v' vo, e = .returned (.tuple #[.agg #[.int .i64 (putB b ⟨at_, cs, now⟩).most, .int .i64 (putB b ⟨at_, cs, now⟩).wait, .bool (putB b ⟨at_, cs, now⟩).begun, .int .i64 (putB b ⟨at_, cs, now⟩).next, v', .int .i64 (putB b ⟨at_, cs, now⟩).lost], vo, .int .i64 (putE b ⟨at_, cs, now⟩)]) ∧ RQ w3 w' v' (putB b ⟨at_, cs, now⟩) vo (putO b ⟨at_, cs, now⟩)) := Lib.hid (rput (.slice ax nx cx) b ⟨at_, cs, now⟩ (M + 100) w3 HRS3.out HFM.out.ok HFM.out.fr hM HFM.out.len ha0 ha1 n0 n1)
      subst hvp
      generalize hlo : (putO b ⟨at_, cs, now⟩).length = lo at *
      have HLO := Lib.hid hlo
      clear hlo
      go_wp2_with fail
      refine HRP.out.mono ?_
      rintro e w4 ⟨v4, u4, rfl, rq⟩
      obtain ⟨a4, n4, c4, hv4, q1, q2, q3⟩ := rq.rs.form
      clear q1 q2 q3 HRP
      subst hv4
      have RQH := Lib.hid rq
      have N4 := Lib.hid rq.out.n
      have hb4 := (rq.out.n.blk HB3.out (fun h => h)).alloc (.cells #[.int .i64 (putB b ⟨at_, cs, now⟩).most, .int .i64 (putB b ⟨at_, cs, now⟩).wait, .bool (putB b ⟨at_, cs, now⟩).begun, .int .i64 (putB b ⟨at_, cs, now⟩).next, .slice a4 n4 c4, .int .i64 (putB b ⟨at_, cs, now⟩).lost] XT)
      have hr4 := (rq.out.n.blk HR3.out (fun h => h)).alloc (.cells #[.int .i64 (putB b ⟨at_, cs, now⟩).most, .int .i64 (putB b ⟨at_, cs, now⟩).wait, .bool (putB b ⟨at_, cs, now⟩).begun, .int .i64 (putB b ⟨at_, cs, now⟩).next, .slice a4 n4 c4, .int .i64 (putB b ⟨at_, cs, now⟩).lost] XT)
      have hd4 : Blk (w4.alloc (.cells #[.int .i64 (putB b ⟨at_, cs, now⟩).most, .int .i64 (putB b ⟨at_, cs, now⟩).wait, .bool (putB b ⟨at_, cs, now⟩).begun, .int .i64 (putB b ⟨at_, cs, now⟩).next, .slice a4 n4 c4, .int .i64 (putB b ⟨at_, cs, now⟩).lost] XT)) w4.heap.size #[.int .i64 (putB b ⟨at_, cs, now⟩).most, .int .i64 (putB b ⟨at_, cs, now⟩).wait, .bool (putB b ⟨at_, cs, now⟩).begun, .int .i64 (putB b ⟨at_, cs, now⟩).next, .slice a4 n4 c4, .int .i64 (putB b ⟨at_, cs, now⟩).lost] XT := Blk.new _ _ _
      have hpd : ps ≠ w4.heap.size := by have := (rq.out.n.blk HB3.out (fun h => h)).lt; omega
      have N5 : Hid (New w3 (w4.alloc (.cells #[.int .i64 (putB b ⟨at_, cs, now⟩).most, .int .i64 (putB b ⟨at_, cs, now⟩).wait, .bool (putB b ⟨at_, cs, now⟩).begun, .int .i64 (putB b ⟨at_, cs, now⟩).next, .slice a4 n4 c4, .int .i64 (putB b ⟨at_, cs, now⟩).lost] XT))) := Lib.hid (N4.out.alloc _)
      clear rq b0 b1 b2 b3 b4 b5 b6 b7 z0 z1 z2 z3 z4 z5 z6 z7 x0 x1 x2
      go_upto_region 9 with fail
      refine (show Code.wp _ _ _ _ (w4.alloc (.cells #[.int .i64 (putB b ⟨at_, cs, now⟩).most, .int .i64 (putB b ⟨at_, cs, now⟩).wait, .bool (putB b ⟨at_, cs, now⟩).begun, .int .i64 (putB b ⟨at_, cs, now⟩).next, .slice a4 n4 c4, .int .i64 (putB b ⟨at_, cs, now⟩).lost] XT)) from ?_)
      have HW5 : Hid (∃ w5, w5 = w4.alloc (.cells #[.int .i64 (putB b ⟨at_, cs, now⟩).most, .int .i64 (putB b ⟨at_, cs, now⟩).wait, .bool (putB b ⟨at_, cs, now⟩).begun, .int .i64 (putB b ⟨at_, cs, now⟩).next, .slice a4 n4 c4, .int .i64 (putB b ⟨at_, cs, now⟩).lost] XT)) := Lib.hid ⟨_, rfl⟩
      obtain ⟨w5, hw5⟩ := HW5.out
      rw [← hw5] at hb4 hr4 hd4 N5 ⊢
      have HWE := Lib.hid hw5
      clear HW5 hw5
      generalize w4.heap.size = pd at *
      have HB5 := Lib.hid hb4
      have HR5 := Lib.hid hr4
      obtain ⟨⟨b0, b1, b2, b3, b4, b5, b6, b7⟩, z0, z1, z2, z3, z4, z5, z6, z7⟩ := eight hb4
      obtain ⟨d0, d1, d2, d3, d4, d5, dd⟩ := six hd4
      have hl1 := hb4.lt
      have hl2 := hd4.lt
      clear dd hb4 hr4 hd4
      go_upto_region 10 with fail
      refine (show Code.wp _ _ _ _ (puts w5 ps 1 [.int .i64 (putB b ⟨at_, cs, now⟩).most, .int .i64 (putB b ⟨at_, cs, now⟩).wait, .bool (putB b ⟨at_, cs, now⟩).begun, .int .i64 (putB b ⟨at_, cs, now⟩).next, .slice a4 n4 c4, .int .i64 (putB b ⟨at_, cs, now⟩).lost]) from ?_)
      have t6 : Turns (· = ps) w5 (puts w5 ps 1 [.int .i64 (putB b ⟨at_, cs, now⟩).most, .int .i64 (putB b ⟨at_, cs, now⟩).wait, .bool (putB b ⟨at_, cs, now⟩).begun, .int .i64 (putB b ⟨at_, cs, now⟩).next, .slice a4 n4 c4, .int .i64 (putB b ⟨at_, cs, now⟩).lost]) := puts_turns (S := (· = ps)) (.inl rfl) _ 1 _ (Turns.refl _ _)
      have hb6 : Blk (puts w5 ps 1 [.int .i64 (putB b ⟨at_, cs, now⟩).most, .int .i64 (putB b ⟨at_, cs, now⟩).wait, .bool (putB b ⟨at_, cs, now⟩).begun, .int .i64 (putB b ⟨at_, cs, now⟩).next, .slice a4 n4 c4, .int .i64 (putB b ⟨at_, cs, now⟩).lost]) ps [.pointer (some ⟨p, 0, none⟩), .int .i64 (putB b ⟨at_, cs, now⟩).most, .int .i64 (putB b ⟨at_, cs, now⟩).wait, .bool (putB b ⟨at_, cs, now⟩).begun, .int .i64 (putB b ⟨at_, cs, now⟩).next, .slice a4 n4 c4, .int .i64 (putB b ⟨at_, cs, now⟩).lost, .int .i64 now].toArray TS := puts_over _ 1 _ _ HB5.out
      have hr6 := t6.blk HR5.out (fun e => HPP.out.2.2.2.2.1 e.symm)
      have HW0 : Hid (w0.heap.size ≤ ps) := Lib.hid (by have := HO.out.n.size; have := HPS.out; omega)
      have HO6 : Hid (Own w0 (puts w5 ps 1 [.int .i64 (putB b ⟨at_, cs, now⟩).most, .int .i64 (putB b ⟨at_, cs, now⟩).wait, .bool (putB b ⟨at_, cs, now⟩).begun, .int .i64 (putB b ⟨at_, cs, now⟩).next, .slice a4 n4 c4, .int .i64 (putB b ⟨at_, cs, now⟩).lost]) p vb3 (putB b ⟨at_, cs, now⟩)) := Lib.hid ((HO3.out.later N5.out).turnps HB5.out t6 HW0.out)
      have rs5 : RS w5 (.slice a4 n4 c4) (putB b ⟨at_, cs, now⟩).L := by rw [HWE.out]; exact RQH.out.rs.later ((Turns.refl _ _).alloc _)
      have HS6 : Hid (RS (puts w5 ps 1 [.int .i64 (putB b ⟨at_, cs, now⟩).most, .int .i64 (putB b ⟨at_, cs, now⟩).wait, .bool (putB b ⟨at_, cs, now⟩).begun, .int .i64 (putB b ⟨at_, cs, now⟩).next, .slice a4 n4 c4, .int .i64 (putB b ⟨at_, cs, now⟩).lost]) (.slice a4 n4 c4) (putB b ⟨at_, cs, now⟩).L) := Lib.hid (rs5.turns t6 (fun g hg e => rs5.off HB5.out (by decide) (by rw [hg, e])))
      have u5 : Owns TE RT w5 u4 (putO b ⟨at_, cs, now⟩) := by rw [HWE.out]; exact RQH.out.out.own.turns (S := fun _ => False) ((Turns.refl _ _).alloc _) (fun _ _ h => h)
      have HU6 : Hid (Owns TE RT (puts w5 ps 1 [.int .i64 (putB b ⟨at_, cs, now⟩).most, .int .i64 (putB b ⟨at_, cs, now⟩).wait, .bool (putB b ⟨at_, cs, now⟩).begun, .int .i64 (putB b ⟨at_, cs, now⟩).next, .slice a4 n4 c4, .int .i64 (putB b ⟨at_, cs, now⟩).lost]) u4 (putO b ⟨at_, cs, now⟩)) := Lib.hid (u5.turns t6 (fun g hg e => own_ne u5 HB5.out (by decide) (by rw [hg, e])))
      have q5 := T3.out.out.turns (S := fun _ => False) N5.out (fun _ _ h => h)
      have HQ6 : Hid (Owns TE PT (puts w5 ps 1 [.int .i64 (putB b ⟨at_, cs, now⟩).most, .int .i64 (putB b ⟨at_, cs, now⟩).wait, .bool (putB b ⟨at_, cs, now⟩).begun, .int .i64 (putB b ⟨at_, cs, now⟩).next, .slice a4 n4 c4, .int .i64 (putB b ⟨at_, cs, now⟩).lost]) (.slice ap lo cp) (putO b ⟨at_, cs, now⟩)) := Lib.hid (q5.turns t6 (fun g hg e => own_ne q5 HB5.out (by decide) (by rw [hg, e])))
      have HT6 : Hid (Turns (Foot p vb) w (puts w5 ps 1 [.int .i64 (putB b ⟨at_, cs, now⟩).most, .int .i64 (putB b ⟨at_, cs, now⟩).wait, .bool (putB b ⟨at_, cs, now⟩).begun, .int .i64 (putB b ⟨at_, cs, now⟩).next, .slice a4 n4 c4, .int .i64 (putB b ⟨at_, cs, now⟩).lost])) := Lib.hid ((((HN2.out.mono (fun _ _ h => h.elim)).trans (T3.out.t.mono (fun _ _ h => .inl h))).trans (N5.out.mono (fun _ _ h => h.elim))).trans (t6.mono (fun i _ hi => .inr (by rw [hi, ← HPS.out]; exact Nat.le_refl _))))
      have hlo : (putO b ⟨at_, cs, now⟩).length ≤ 1000000 := by
        exact putO_len HF.out ⟨at_, cs, now⟩
      have HB6 := Lib.hid hb6
      have HR6 := Lib.hid hr6
      clear t6 rs5 u5 q5 hb6 hr6
      generalize puts w5 ps 1 [.int .i64 (putB b ⟨at_, cs, now⟩).most, .int .i64 (putB b ⟨at_, cs, now⟩).wait, .bool (putB b ⟨at_, cs, now⟩).begun, .int .i64 (putB b ⟨at_, cs, now⟩).next, .slice a4 n4 c4, .int .i64 (putB b ⟨at_, cs, now⟩).lost] = w6 at *
      clear b0 b1 b2 b3 b4 b5 b6 b7 z0 z1 z2 z3 z4 z5 z6 z7 d0 d1 d2 d3 d4 d5 hl1 hl2
      have HSA := Lib.hid (fun (W : World) (n : New w6 W) => same (.slice ap lo cp) u4 (putO b ⟨at_, cs, now⟩) W (Sub.turns (HQ6.out.sub 0 (fun _ _ => Nat.zero_le _)) n (fun _ _ h => h)) (Sub.turns (HU6.out.sub 0 (fun _ _ => Nat.zero_le _)) n (fun _ _ h => h)) hlo)
      obtain ⟨⟨b0, b1, b2, b3, b4, b5, b6, b7⟩, _⟩ := eight HB6.out
      have hpsl := HB6.out.lt
      have hpsr := HPP.out.2.2.2.2.1
      have HH : HeldE w6 w6 pr ps (.pointer (some ⟨p, 0, none⟩)) (.int .i64 (putB b ⟨at_, cs, now⟩).most) (.int .i64 (putB b ⟨at_, cs, now⟩).wait) (.bool (putB b ⟨at_, cs, now⟩).begun) (.int .i64 (putB b ⟨at_, cs, now⟩).next) (.slice a4 n4 c4) (.int .i64 (putB b ⟨at_, cs, now⟩).lost) (.int .i64 now) := ⟨Turns.refl _ _, hpsl, b0, b1, b2, b3, b4, b5, b6, b7⟩
      have heq : (putE b ⟨at_, cs, now⟩ == putE b ⟨at_, cs, now⟩) = true := by simp
      generalize putE b ⟨at_, cs, now⟩ = pe at *
      have HPRG : Hid (w.heap.size ≤ pr ∧ w0.heap.size ≤ pr) := Lib.hid ⟨by have := HPS.out; have := HPP.out; omega, by have := HO.out.n.size; have := HPS.out; have := HPP.out; omega⟩
      clear HB5 HR5 HWE N5 N4 RQH HB3 HR3 HO3 T3 HRS3 HFM HO2 HRS2 HX2 HR2 HB2 HN2 HN1 HATB
      go_region_held (fun w' => Turns (· = pr) w6 w' ∧ ps < w'.heap.size ∧ w'.cell? ⟨ps, 0, none⟩ = some (.pointer (some ⟨p, 0, none⟩)) ∧ w'.cell? ⟨ps, 1, none⟩ = some (.int .i64 (putB b ⟨at_, cs, now⟩).most) ∧ w'.cell? ⟨ps, 2, none⟩ = some (.int .i64 (putB b ⟨at_, cs, now⟩).wait) ∧ w'.cell? ⟨ps, 3, none⟩ = some (.bool (putB b ⟨at_, cs, now⟩).begun) ∧ w'.cell? ⟨ps, 4, none⟩ = some (.int .i64 (putB b ⟨at_, cs, now⟩).next) ∧ w'.cell? ⟨ps, 5, none⟩ = some (.slice a4 n4 c4) ∧ w'.cell? ⟨ps, 6, none⟩ = some (.int .i64 (putB b ⟨at_, cs, now⟩).lost) ∧ w'.cell? ⟨ps, 7, none⟩ = some (.int .i64 now))
        (first
          | (with_reducible assumption)
          | ((with_reducible refine heldE_drew ?_); with_reducible assumption)
          | ((with_reducible refine heldE_new (by with_reducible assumption) ?_); with_reducible assumption)
          | ((with_reducible refine heldE_store hpsr _ _ _ _ _ _ _ _ ?_); with_reducible assumption))
        ((go_at_call 21; (with_reducible refine Calls.mono (HSA.out _ ?_) ?_); (focus (repeat (first | exact Turns.refl _ _ | with_reducible apply Turns.drew))); rintro e w9 ⟨rfl, n9⟩; have hr9 : Blk w9 pr zsL.toArray TS := n9.blk HR6.out (fun h => h); obtain ⟨⟨r0', r1', r2', r3', r4', r5', r6', r7'⟩, y0', y1', y2', y3', y4', y5', y6', y7'⟩ := eight hr9))
      all_goals
        go_wp2_with fail
        refine (show bodyPost _ _ _ _ _ (puts w9 pr 0 [.pointer (some ⟨p, 0, none⟩), .int .i64 (putB b ⟨at_, cs, now⟩).most, .int .i64 (putB b ⟨at_, cs, now⟩).wait, .bool (putB b ⟨at_, cs, now⟩).begun, .int .i64 (putB b ⟨at_, cs, now⟩).next, .slice a4 n4 c4, .int .i64 (putB b ⟨at_, cs, now⟩).lost, .int .i64 now]) from ?_)
        have hff := Dn.store (zs := [.pointer (some ⟨p, 0, none⟩), .int .i64 (putB b ⟨at_, cs, now⟩).most, .int .i64 (putB b ⟨at_, cs, now⟩).wait, .bool (putB b ⟨at_, cs, now⟩).begun, .int .i64 (putB b ⟨at_, cs, now⟩).next, .slice a4 n4 c4, .int .i64 (putB b ⟨at_, cs, now⟩).lost, .int .i64 now]) HO6.out HS6.out HT6.out HU6.out HR6.out HPRG.out.1 HPRG.out.2 (by first | exact n9 | exact Turns.of_drew n9 | exact Turns.of_drew (Turns.of_drew n9)) rfl
        generalize puts w9 pr 0 [.pointer (some ⟨p, 0, none⟩), .int .i64 (putB b ⟨at_, cs, now⟩).most, .int .i64 (putB b ⟨at_, cs, now⟩).wait, .bool (putB b ⟨at_, cs, now⟩).begun, .int .i64 (putB b ⟨at_, cs, now⟩).next, .slice a4 n4 c4, .int .i64 (putB b ⟨at_, cs, now⟩).lost, .int .i64 now] = wz at *
        obtain ⟨⟨g0, g1, g2, g3, g4, g5, g6, g7⟩, _⟩ := eight hff.1
        refine bodyPost_ret (v := .tuple #[.agg #[.pointer (some ⟨p, 0, none⟩), .int .i64 (putB b ⟨at_, cs, now⟩).most, .int .i64 (putB b ⟨at_, cs, now⟩).wait, .bool (putB b ⟨at_, cs, now⟩).begun, .int .i64 (putB b ⟨at_, cs, now⟩).next, .slice a4 n4 c4, .int .i64 (putB b ⟨at_, cs, now⟩).lost, .int .i64 now], u4, .bool true]) (by simp [results, Try.results10, go_sem, g0, g1, g2, g3, g4, g5, g6, g7]) rfl ?_
        exact ⟨_, _, (by rw [HTH.out]), (by rw [HTH.out]; exact hff.2)⟩
end Go.Proofs.Ytfgfejcnkjeghaa.reo
