/-
  The reference of layer 9: run, Skip.
-/
import Derived.Test.YtfgfejcnkjeghaaReoAwake
import Derived.Deep.RegionHeld3
import Derived.Deep.QuietTactic
namespace Go.Proofs.Ytfgfejcnkjeghaa.reo
open Go.RowKit mem
set_option linter.unusedVariables false

abbrev RT : TypeId := 40
abbrev RST : TypeId := 24
abbrev XT : TypeId := 26
theorem infoR : (Try.prog.info? RT).map (fun i => (i.zero, i.size, i.bytes)) = some (some (.agg #[.int .i64 0, .string ⟨#[]⟩, .int .i64 0]), 3, 32) := by kernel_rfl
def rL (b : B) (v : Value) : List Value := [.int .i64 b.most, .int .i64 b.wait, .bool b.begun, .int .i64 b.next, v, .int .i64 b.lost]
abbrev zrL : List Value := [.int .i64 0, .int .i64 0, .bool false, .int .i64 0, .slice none 0 0, .int .i64 0]

/-- the reference's things: they lie anywhere, in a block of things -/
structure RS (w : World) (v : Value) (l : List Th) : Prop where
  sub : Sub TE 0 w v l
  ty : ∀ g, v.ownBlock = some g → ∃ cs, Blk w g cs RT
section
variable {w w' : World} {v : Value} {l : List Th}
theorem RS.nil (w : World) : RS w (.slice none 0 0) [] := ⟨Sub.nil _ _ _, fun g hg => by simp [Value.ownBlock] at hg⟩
theorem RS.lt (h : RS w v l) : ∀ g, v.ownBlock = some g → g < w.heap.size := fun g hg => (Sub.lt h.sub g hg).2
theorem RS.turns {S : Nat → Prop} (h : RS w v l) (ht : Turns S w w') (hn : ∀ g, v.ownBlock = some g → ¬ S g) : RS w' v l :=
  ⟨Sub.turns' h.sub ht hn, fun g hg => by obtain ⟨cs, hb⟩ := h.ty g hg; exact ⟨cs, ht.blk hb (hn g hg)⟩⟩
theorem RS.later (h : RS w v l) (n : New w w') : RS w' v l := h.turns n (fun _ _ h => h)
theorem RS.off {p : Nat} {cs : Array Value} {T : TypeId} (h : RS w v l) (hb : Blk w p cs T) (hT : RT ≠ T) : v.ownBlock ≠ some p := by
  intro e
  obtain ⟨ds, hd⟩ := h.ty p e
  unfold Blk at hb hd
  rw [hb] at hd
  injection hd with hd
  injection hd with _ hd
  exact hT hd.symm
theorem RS.of_owns (h : Owns TE RT w v l) : RS w v l :=
  ⟨h.sub 0 (fun _ _ => Nat.zero_le _), fun g hg => by
    rcases h.2 with ⟨rfl, _⟩ | ⟨g', cap, cur, rfl, _, hb, _⟩
    · simp [Value.ownBlock] at hg
    · have : g' = g := by simpa [Value.ownBlock] using hg
      subst this
      exact ⟨cur, hb⟩⟩
theorem RS.form (h : RS w v l) : ∃ ao n c, v = .slice ao n c ∧ n = l.length ∧ n ≤ c ∧ c ≤ maxLen := by
  obtain ⟨ao, c, e, h1, h2⟩ := Sub.form h.sub
  exact ⟨ao, _, c, e, rfl, h1, h2⟩
/-- the program's calls on its buffer leave the reference's things -/
theorem RS.two {wx : World} {p : Nat} {u u' vo : Value} {b b' : B} {o : List Th} (h : RS w v l) (k : Two w p u w' u' b' vo o) (hb : Bs w p u b) : RS w' v l :=
  h.turns k.t (fun g hg e => by
    rcases e with e | e
    · exact h.off hb.blk (by decide) (by rw [hg, e])
    · obtain ⟨cs, hc⟩ := h.ty g hg
      rcases hb.own.2 with ⟨rfl, _⟩ | ⟨g', cap, cur, rfl, _, hd, _⟩
      · simp [Value.ownBlock] at e
      · have : g' = g := by simpa [Value.ownBlock] using e
        subst this
        unfold Blk at hc
        rw [hd] at hc
        injection hc with hc
        injection hc with _ hc
        exact absurd hc (by decide))
/-- something is there -/
theorem RS.at_ {x : Th} (h : RS w v (x :: l)) : ∃ g o n c, v = .slice (some ⟨g, o, none⟩) n c ∧ n = l.length + 1 ∧ n ≤ c ∧ c ≤ maxLen ∧ g < w.heap.size ∧ w.cell? ⟨g, o, none⟩ = some (.int .i64 x.at_) ∧ w.cell? ⟨g, o + 1, none⟩ = some (.string x.tx) ∧ w.cell? ⟨g, o + 2, none⟩ = some (.int .i64 x.tick) ∧
    (c = 1 → RS w (.slice (some ⟨g, o, none⟩) (n - 1) (c - 1)) l) ∧ (c ≠ 1 → RS w (.slice (some ⟨g, o + 3, none⟩) (n - 1) (c - 1)) l) := by
  rcases id h.sub with ⟨_, h0⟩ | hl
  · cases h0
  · obtain ⟨g, o, c, rfl, h1, h2, _, h4, h5⟩ := hl.cell
    have hd := Lies.drop hl 1 (by simp)
    refine ⟨g, o, _, c, rfl, by simp, h1, h2, h4, h5 0 x rfl 0 _ rfl, h5 0 x rfl 1 _ rfl, h5 0 x rfl 2 _ rfl, fun hc => ?_, fun hc => ?_⟩
    · rw [if_pos hc] at hd
      exact ⟨.inr hd, fun g' hg' => h.ty g' hg'⟩
    · rw [if_neg hc] at hd
      exact ⟨.inr hd, fun g' hg' => h.ty g' (by simpa [Value.ownBlock] using hg')⟩
theorem RS.nil_form (h : RS w v []) : ∃ ao c, v = .slice ao 0 c := by
  obtain ⟨ao, n, c, e, hn, _⟩ := h.form
  exact ⟨ao, c, by rw [e, hn]; rfl⟩
end

/-- what a call of the reference hands back -/
structure RP (w w' : World) (v v' : Value) (b' : B) (vo : Value) (o : List Th) : Prop where
  rs : RS w' v' b'.L
  own : v'.ownBlock = v.ownBlock
  out : Gr TE RT w w' vo o

/-- the first k have followed -/
def runK (b : B) (k : Nat) : B := { b with L := b.L.drop k, next := b.next + (k : Int) }
structure Rn (w wr : World) (p1 p2 : Nat) (b : B) (v : Value) (k : Nat) (vk vo : Value) : Prop where
  box : Blk wr p1 (rL (runK b k) vk).toArray XT
  rbx : Blk wr p2 zrL.toArray XT
  rs : RS wr vk (b.L.drop k)
  own : vk.ownBlock = v.ownBlock
  out : Gr TE RT w wr vo (b.L.take k)
  vlt : ∀ g, v.ownBlock = some g → g < w.heap.size
  pge : w.heap.size ≤ p1
  pge2 : w.heap.size ≤ p2
  pne : p1 ≠ p2
section
variable {w wr w2 : World} {p1 p2 : Nat} {b : B} {v : Value} {k : Nat} {vk vo vo2 : Value}
theorem Rn.later (h : Rn w wr p1 p2 b v k vk vo) (n : New wr w2) : Rn w w2 p1 p2 b v k vk vo :=
  ⟨n.blk h.box (fun h => h), n.blk h.rbx (fun h => h), h.rs.later n, h.own, h.out.later n, h.vlt, h.pge, h.pge2, h.pne⟩
theorem Rn.push {o : Obj} {x : Th} (h : Rn w wr p1 p2 b v k vk vo) (hx : b.L[k]? = some x) (ho : Owns TE RT w2 vo2 (b.L.take k ++ [x])) (hg : (wr.alloc o).grownBy w2 vo.ownBlock) (ha : vo2.ownBlock = vo.ownBlock ∨ vo2.ownBlock = some (wr.alloc o).heap.size) :
    Blk w2 p1 (rL (runK b k) vk).toArray XT ∧ Blk w2 p2 zrL.toArray XT ∧ Gr TE RT w w2 vo2 (b.L.take (k + 1)) ∧ New w w2 ∧ (∀ (u : Value) (l : List Th), RS wr u l → u.ownBlock = v.ownBlock → RS w2 u l) := by
  have t1 := Gr.turned hg
  have G := h.out.push ho hg ha
  refine ⟨t1.blk h.box (fun e => own_ne h.out.own h.box (by decide) e.symm), t1.blk h.rbx (fun e => own_ne h.out.own h.rbx (by decide) e.symm), ?_, G.n, fun u l hu he => hu.turns t1 (fun g hg e => ?_)⟩
  · rw [List.take_add_one, hx]
    exact G
  · have h1 := h.vlt g (by rw [← he]; exact hg)
    have h2 := h.out.vb g e.symm
    omega
/-- the rest of the step -/
theorem Rn.step {v' : Value} {w3 : World} (h : Rn w wr p1 p2 b v k vk vo) (hb1 : Blk w3 p1 (rL (runK b k) vk).toArray XT) (hb2 : Blk w3 p2 zrL.toArray XT) (hg : Gr TE RT w w3 vo2 (b.L.take (k + 1))) (hr : RS w3 v' (b.L.drop (k + 1))) (hv : v'.ownBlock = v.ownBlock) :
    Rn w ((w3.setCell ⟨p1, 4, none⟩ v').setCell ⟨p1, 3, none⟩ (.int .i64 (b.next + (k : Int) + 1))) p1 p2 b v (k + 1) v' vo2 := by
  have t1 : Turns (· = p1) w3 ((w3.setCell ⟨p1, 4, none⟩ v').setCell ⟨p1, 3, none⟩ (.int .i64 (b.next + (k : Int) + 1))) := ((Turns.refl (· = p1) _).setCell (.inl rfl) _).setCell (.inl rfl) _
  have b1 := (hb1.set 4 v').set 3 (.int .i64 (b.next + (k : Int) + 1))
  refine ⟨?_, t1.blk hb2 (fun e => h.pne e.symm), hr.turns t1 (fun g hg e => ?_), hv, ⟨hg.own.turns t1 (fun g hg' e => ?_), hg.vb, hg.n.trans (t1.mono (fun i _ hi => .inr (by rw [hi]; exact h.pge)))⟩, h.vlt, h.pge, h.pge2, h.pne⟩
  · rw [List.setIfInBounds_toArray, List.setIfInBounds_toArray] at b1
    have e : ((rL (runK b k) vk).set 4 v').set 3 (.int .i64 (b.next + (k : Int) + 1)) = rL (runK b (k + 1)) v' := by
      have e2 : b.next + (k : Int) + 1 = b.next + ((k + 1 : Nat) : Int) := by omega
      rw [e2]
      rfl
    rw [e] at b1
    exact b1
  · have h1 := h.vlt g (by rw [← hv]; exact hg)
    have h2 := h.pge
    omega
  · exact own_ne hg.own hb1 (by decide) (by rw [hg', e])
/-- what is handed back -/
theorem Rn.fin (h : Rn w wr p1 p2 b v k vk vo) (h1 : follow b = runK b k) (h2 : followO b = b.L.take k) :
    Blk (puts wr p2 0 (rL (follow b) vk)) p2 (rL (follow b) vk).toArray XT ∧ RP w (puts wr p2 0 (rL (follow b) vk)) v vk (follow b) vo (followO b) := by
  have hL : (follow b).L = b.L.drop k := by rw [h1]; rfl
  obtain ⟨ws, hws⟩ : ∃ ws, ws = rL (follow b) vk := ⟨_, rfl⟩
  have hwl : ws.length = zrL.length := by rw [hws]; rfl
  rw [← hws, h2]
  have t1 : Turns (· = p2) wr (puts wr p2 0 ws) := puts_turns (S := (· = p2)) (.inl rfl) _ 0 _ (Turns.refl _ _)
  refine ⟨puts_blk zrL _ h.rbx hwl, ⟨?_, h.own, ⟨?_, h.out.vb, ?_⟩⟩⟩
  · rw [hL]
    exact h.rs.turns t1 (fun g hg e => by have := h.vlt g (by rw [← h.own]; exact hg); have := h.pge2; omega)
  · exact h.out.own.turns t1 (fun g hg e => own_ne h.out.own h.rbx (by decide) (by rw [hg, e]))
  · exact h.out.n.trans (t1.mono (fun i _ hi => .inr (by rw [hi]; exact h.pge2)))
end
/-- how many wait, read from the reference's box -/
def rlenAt (w : World) (p : Nat) : Nat := match w.cell? ⟨p, 4, none⟩ with | some (.slice _ n _) => n | _ => 0

theorem six {w : World} {p : Nat} {a b c d e f : Value} {T : TypeId} (h : Blk w p #[a, b, c, d, e, f] T) :
    w.cell? ⟨p, 0, none⟩ = some a ∧ w.cell? ⟨p, 1, none⟩ = some b ∧ w.cell? ⟨p, 2, none⟩ = some c ∧ w.cell? ⟨p, 3, none⟩ = some d ∧ w.cell? ⟨p, 4, none⟩ = some e ∧ w.cell? ⟨p, 5, none⟩ = some f ∧
    w.frozen? ⟨p, 0, none⟩ = false ∧ w.frozen? ⟨p, 1, none⟩ = false ∧ w.frozen? ⟨p, 2, none⟩ = false ∧ w.frozen? ⟨p, 3, none⟩ = false ∧ w.frozen? ⟨p, 4, none⟩ = false ∧ w.frozen? ⟨p, 5, none⟩ = false :=
  ⟨h.cell 0, h.cell 1, h.cell 2, h.cell 3, h.cell 4, h.cell 5, h.free 0, h.free 1, h.free 2, h.free 3, h.free 4, h.free 5⟩
theorem made0R {W : World} {B : Nat} (h : Blk W B #[] RT) : Owns TE RT W (.slice (some ⟨B, 0, none⟩) 0 0) [] :=
  ⟨by simp [Enc.all], .inr ⟨B, 0, #[], rfl, Nat.zero_le _, h, Nat.le_refl _, Nat.zero_le _, by simp, by simp [Enc.all]⟩⟩
theorem Blk.new' (w : World) (cs : Array Value) (t : TypeId) (p : Nat) (h : p = w.heap.size) : Blk (w.alloc (.cells cs t)) p cs t := by subst h; exact Blk.new _ _ _

set_option maxRecDepth 10000 in
set_option maxHeartbeats 4000000 in
theorem rrun (v : Value) (b : B) (M : Int) (w : World) (h : RS w v b.L) (ho : b.ok M) (hM : M ≤ 1099511627776) :
    Calls Try.prog 31 #[.agg (rL b v).toArray] w fun e w' => ∃ v' vo, e = .returned (.tuple #[.agg (rL (follow b) v').toArray, vo]) ∧ RP w w' v v' (follow b) vo (followO b) := by
  have hlen := ho.len
  have n1 := ho.n1
  have n2 := ho.n2
  have HO := Lib.hid ho
  have hRl := runN_le b.L b.next
  obtain ⟨R, hR⟩ : ∃ R, R = runN b.next b.L := ⟨_, rfl⟩
  rw [← hR] at hRl
  have HR := Lib.hid hR
  have HD : Hid (follow b = runK b R ∧ followO b = b.L.take R) := Lib.hid ⟨by unfold follow runK; rw [← hR], by unfold followO; rw [← hR]⟩
  have HW : Hid (Rn w (((w.alloc (.cells (rL b v).toArray XT)).alloc (.cells zrL.toArray XT)).alloc (.cells #[] RT)) w.heap.size (w.heap.size + 1) b v 0 v (.slice (some ⟨w.heap.size + 1 + 1, 0, none⟩) 0 0)) := Lib.hid (by
    have n3 : New w (((w.alloc (.cells (rL b v).toArray XT)).alloc (.cells zrL.toArray XT)).alloc (.cells #[] RT)) := (((Turns.refl _ _).alloc _).alloc _).alloc _
    refine ⟨?_, (Blk.new' _ _ _ _ (by simp)).alloc _, h.later n3, rfl, ⟨made0R (Blk.new' _ _ _ _ (by simp)), fun g hg => ?_, n3⟩, h.lt, Nat.le_refl _, Nat.le_succ _, by omega⟩
    · have e : runK b 0 = b := by unfold runK; simp
      rw [e]
      exact ((Blk.new _ _ _).alloc _).alloc _
    · have e : w.heap.size + 1 + 1 = g := by simpa [Value.ownBlock] using hg
      omega)
  obtain ⟨ao, n0, c0, hv, hn0, hcc0, hcm0⟩ := h.form
  clear h ho hR hn0 hcc0 hcm0
  subst hv
  unfold rL
  go_enter Try.func31, Try.ntmps31
  go_upto_region 2 with fail
  refine (show Code.wp _ _ _ _ (((w.alloc (.cells (rL b (.slice ao n0 c0)).toArray XT)).alloc (.cells zrL.toArray XT)).alloc (.cells #[] RT)) from ?_)
  generalize (((w.alloc (.cells (rL b (.slice ao n0 c0)).toArray XT)).alloc (.cells zrL.toArray XT)).alloc (.cells #[] RT)) = w3 at *
  generalize w.heap.size + 1 + 1 = p3 at *
  generalize hp2 : w.heap.size + 1 = p2 at *
  generalize hp1 : w.heap.size = p1 at *
  clear hp1 hp2
  go_loopw [4] (fun vo wr => ∃ (k : Nat) (vk : Value), k ≤ R ∧ Rn w wr p1 p2 b (.slice ao n0 c0) k vk vo) (fun _ wr => rlenAt wr p1)
  case atStart => exact ⟨0, _, Nat.zero_le _, HW.out⟩
  case round =>
    obtain ⟨k, vk, hk, hj⟩ := hrel
    have HJ := Lib.hid hj
    clear HW
    obtain ⟨k0, k1, k2, c3, c4, k5, e0, e1, e2, f3, f4, e5⟩ := six hj.box
    dsimp only [runK] at k0 k1 k2 c3 k5
    have hne12 := hj.pne
    have hne21 := hne12.symm
    by_cases hgo : k < R
    · have hlt : k < b.L.length := by omega
      have HX : Hid (b.L[k].at_ = b.next + k) := Lib.hid (runN_at b.L b.next k hlt (by rw [← HR.out]; exact hgo))
      have hX2 := HO.out.at2 _ (List.getElem_mem hlt)
      have HXG : Hid (b.L[k]? = some ⟨b.next + (k : Int), b.L[k].tx, b.L[k].tick⟩) := Lib.hid (by rw [List.getElem?_eq_getElem hlt, ← HX.out])
      have hrs := hj.rs
      rw [List.drop_eq_getElem_cons hlt] at hrs
      obtain ⟨g, o, n, c, hvk, hn, hnc, hcm, hg, z0, z1, z2, hd1, hd2⟩ := hrs.at_
      have HVO : Hid (∀ g, vk.ownBlock = some g → (Value.slice ao n0 c0).ownBlock = some g) := Lib.hid (fun g hg => by rw [← hj.own]; exact hg)
      have hgw : g < w.heap.size := hj.vlt g (by rw [← hj.own, hvk]; rfl)
      have hrl : rlenAt wr p1 = n := by unfold rlenAt; rw [c4, hvk]
      have HRL := Lib.hid hrl
      have HNK : Hid (n = (b.L.drop (k + 1)).length + 1) := Lib.hid hn
      have hn1 : 1 ≤ n := by omega
      rw [HX.out] at z0 hX2
      have hkl : (b.L.take k).length + 1 ≤ 1048576 := by rw [List.length_take]; omega
      have HKL := Lib.hid hkl
      have HOW : Hid ((Value.slice (some ⟨g, o, none⟩) n c).ownBlock = (Value.slice ao n0 c0).ownBlock) := Lib.hid (by rw [← hvk]; exact hj.own)
      have HD12 := Lib.hid (And.intro hd1 hd2)
      have hcm' : c ≤ 9223372036854775807 := by unfold maxLen at hcm; omega
      clear hj hrs HX hn hkl hrl hd1 hd2 hcm
      subst hvk
      generalize b.L[k].tx = xt at *
      generalize b.L[k].tick = xk at *
      clear hlt
      have s1 : IntKind.i64.wrap (b.next + (k : Int) + 1) = b.next + (k : Int) + 1 := IntWalk.i64_in _ (by omega)
      have d1 : decide ((0 : Int) < (n : Int)) = true := decide_eq_true (by omega)
      have d0 : decide (0 < n) = true := decide_eq_true (by omega)
      clear k0 k1 k2 k5 e0 e1 e2 e5
      have d2 : (0 : Int) < (n : Int) := by omega
      have d3 : (1 : Int) ≤ (n : Int) := by omega
      have HPU := Lib.hid (fun (m : Nat) (o' : Obj) (w6 : World) (vo6 : Value) (ho : Owns TE RT w6 vo6 (b.L.take k ++ [⟨b.next + (k : Int), xt, xk⟩])) (hg : ((wr.drewN m).alloc o').grownBy w6 u4.ownBlock) (ha : vo6.ownBlock = u4.ownBlock ∨ vo6.ownBlock = some ((wr.drewN m).alloc o').heap.size) => (HJ.out.later ((Turns.refl _ _).drewN m)).push HXG.out ho hg ha)
      have HOO := Lib.hid (fun (m : Nat) => (HJ.out.later ((Turns.refl _ _).drewN m)).out.own)
      by_cases hc1 : c = 1
      · have HRT := Lib.hid (HD12.out.1 hc1)
        clear HD12
        subst hc1
        obtain rfl : n = 1 := by omega
        go_upto_region 2 with fail
        go_quiet (fail)
        go_wp2_with (at_builtin; refine wpList_append_one (E := TE) Try.underlying24 infoR rfl (by decide) (by decide) rfl _ _ rfl _ (b.L.take k) (⟨b.next + (k : Int), xt, xk⟩ : Th) rfl ((HOO.out _).turns (S := fun _ => False) ((Turns.refl _ _).alloc _) (fun _ _ h => h)) _ rfl (heap_alloc_new _ _) HKL.out ?_)
        intro vo6 w6 hown6 hgrow6 hat6
        obtain ⟨hb1, hb2, hg6, hn6, hr6⟩ := HPU.out _ _ w6 vo6 hown6 hgrow6 (by simpa using hat6)
        obtain ⟨_, _, _, y3, y4, _, _, _, _, e3, e4, _⟩ := six hb1
        change w6.cell? ⟨p1, 3, none⟩ = some (.int .i64 (b.next + (k : Int))) at y3
        have H9 := Lib.hid (HJ.out.step (vo2 := vo6) (v' := .slice (some ⟨g, o, none⟩) (1 - 1) (1 - 1)) (w3 := w6) hb1 hb2 hg6 (hr6 _ _ (HRT.out.later ((Turns.refl _ _).drewN _)) (by rw [← HOW.out]; rfl)) (by rw [← HOW.out]; rfl))
        have H9L : Hid (rlenAt ((w6.setCell ⟨p1, 4, none⟩ (.slice (some ⟨g, o, none⟩) (1 - 1) (1 - 1))).setCell ⟨p1, 3, none⟩ (.int .i64 (b.next + (k : Int) + 1))) p1 = 1 - 1) := Lib.hid (by unfold rlenAt; rw [(six H9.out.box).2.2.2.2.1])
        clear hown6 hgrow6 hat6 hb1 hb2 hg6 hn6 hr6 z0 z1 z2 c3 c4 f3 f4
        go_wp2_with fail
        all_goals
          go_roundw
          case rel => exact ⟨k + 1, _, by omega, H9.out⟩
          case measure => refine Nat.lt_of_le_of_lt (Nat.le_of_eq H9L.out) ?_; rw [HRL.out]; omega
      · have HRT := Lib.hid (HD12.out.2 hc1)
        clear HD12
        go_upto_region 2 with fail
        go_quiet (fail)
        go_wp2_with (at_builtin; refine wpList_append_one (E := TE) Try.underlying24 infoR rfl (by decide) (by decide) rfl _ _ rfl _ (b.L.take k) (⟨b.next + (k : Int), xt, xk⟩ : Th) rfl ((HOO.out _).turns (S := fun _ => False) ((Turns.refl _ _).alloc _) (fun _ _ h => h)) _ rfl (heap_alloc_new _ _) HKL.out ?_)
        intro vo6 w6 hown6 hgrow6 hat6
        obtain ⟨hb1, hb2, hg6, hn6, hr6⟩ := HPU.out _ _ w6 vo6 hown6 hgrow6 (by simpa using hat6)
        obtain ⟨_, _, _, y3, y4, _, _, _, _, e3, e4, _⟩ := six hb1
        change w6.cell? ⟨p1, 3, none⟩ = some (.int .i64 (b.next + (k : Int))) at y3
        have H9 := Lib.hid (HJ.out.step (vo2 := vo6) (v' := .slice (some ⟨g, o + 3, none⟩) (n - 1) (c - 1)) (w3 := w6) hb1 hb2 hg6 (hr6 _ _ (HRT.out.later ((Turns.refl _ _).drewN _)) (by rw [← HOW.out]; rfl)) (by rw [← HOW.out]; rfl))
        have H9L : Hid (rlenAt ((w6.setCell ⟨p1, 4, none⟩ (.slice (some ⟨g, o + 3, none⟩) (n - 1) (c - 1))).setCell ⟨p1, 3, none⟩ (.int .i64 (b.next + (k : Int) + 1))) p1 = n - 1) := Lib.hid (by unfold rlenAt; rw [(six H9.out.box).2.2.2.2.1])
        clear hown6 hgrow6 hat6 hb1 hb2 hg6 hn6 hr6 z0 z1 z2 c3 c4 f3 f4
        go_wp2_with fail
        all_goals
          go_roundw
          case rel => exact ⟨k + 1, _, by omega, H9.out⟩
          case measure => refine Nat.lt_of_le_of_lt (Nat.le_of_eq H9L.out) ?_; rw [HRL.out]; omega
    · obtain rfl : k = R := by omega
      clear hgo
      have hrs := hj.rs
      have hneq := hj.own
      obtain ⟨r0, r1, r2, r3, r4, r5, y0, y1, y2, y3, y4, y5⟩ := six hj.rbx
      have hl1 := hj.box.lt
      have hl2 := hj.rbx.lt
      have HFIN := Lib.hid (fun m => (HJ.out.later ((Turns.refl (fun _ => False) wr).drewN m)).fin HD.out.1 HD.out.2)
      have HRB : Hid (rL (follow b) vk = [.int .i64 b.most, .int .i64 b.wait, .bool b.begun, .int .i64 (b.next + (k : Int)), vk, .int .i64 b.lost]) := Lib.hid (by rw [HD.out.1]; rfl)
      rw [HRB.out] at HFIN
      by_cases hlt : k < b.L.length
      · have HX : Hid (¬ (b.L[k].at_ = b.next + k)) := Lib.hid (fun e => by
          have := (runN_go b.L b.next k (by rw [← HR.out]; exact Nat.le_refl _) hlt).1 e
          rw [← HR.out] at this
          omega)
        rw [List.drop_eq_getElem_cons hlt] at hrs
        obtain ⟨g, o, n, c, hvk, hn, hnc, hcm, hg, z0, z1, z2, hd1, hd2⟩ := hrs.at_
        have hn1 : 1 ≤ n := by omega
        clear hj hrs hn hd1 hd2 hcm hnc z1 z2
        subst hvk
        generalize b.L[k].at_ = xa at *
        have hx2 : (xa == b.next + (k : Int)) = false := by simpa using HX.out
        clear hlt
        have d1 : decide ((0 : Int) < (n : Int)) = true := decide_eq_true (by omega)
        have d0 : decide (0 < n) = true := decide_eq_true (by omega)
        have d2 : (0 : Int) < (n : Int) := by omega
        go_upto_region 2 with fail
        go_quiet (fail)
        go_wp2_with fail
        refine (show bodyPost _ _ _ _ _ (puts (wr.drewN nq) p2 0 [.int .i64 b.most, .int .i64 b.wait, .bool b.begun, .int .i64 (b.next + (k : Int)), .slice (some ⟨g, o, none⟩) n c, .int .i64 b.lost]) from ?_)
        have hff := HFIN.out nq
        generalize puts (wr.drewN nq) p2 0 [.int .i64 b.most, .int .i64 b.wait, .bool b.begun, .int .i64 (b.next + (k : Int)), .slice (some ⟨g, o, none⟩) n c, .int .i64 b.lost] = w9 at *
        obtain ⟨g0, g1, g2, g3, g4, g5, _⟩ := six hff.1
        refine bodyPost_ret (v := .tuple #[.agg (rL (follow b) (.slice (some ⟨g, o, none⟩) n c)).toArray, u4]) (by rw [HRB.out]; simp [results, Try.results31, go_sem, g0, g1, g2, g3, g4, g5]) rfl ?_
        exact ⟨_, _, rfl, hff.2⟩
      · have hnil : b.L.drop k = [] := List.drop_eq_nil_of_le (by omega)
        rw [hnil] at hrs
        obtain ⟨ao', c', hvk⟩ := hrs.nil_form
        clear hj hrs hnil hlt
        subst hvk
        have dlt0 : decide ((0 : Int) < (0 : Int)) = false := rfl
        go_upto_region 2 with fail
        go_quiet (fail)
        go_wp2_with fail
        refine (show bodyPost _ _ _ _ _ (puts (wr.drewN nq) p2 0 [.int .i64 b.most, .int .i64 b.wait, .bool b.begun, .int .i64 (b.next + (k : Int)), .slice ao' 0 c', .int .i64 b.lost]) from ?_)
        have hff := HFIN.out nq
        generalize puts (wr.drewN nq) p2 0 [.int .i64 b.most, .int .i64 b.wait, .bool b.begun, .int .i64 (b.next + (k : Int)), .slice ao' 0 c', .int .i64 b.lost] = w9 at *
        obtain ⟨g0, g1, g2, g3, g4, g5, _⟩ := six hff.1
        refine bodyPost_ret (v := .tuple #[.agg (rL (follow b) (.slice ao' 0 c')).toArray, u4]) (by rw [HRB.out]; simp [results, Try.results31, go_sem, g0, g1, g2, g3, g4, g5]) rfl ?_
        exact ⟨_, _, rfl, hff.2⟩
end Go.Proofs.Ytfgfejcnkjeghaa.reo
