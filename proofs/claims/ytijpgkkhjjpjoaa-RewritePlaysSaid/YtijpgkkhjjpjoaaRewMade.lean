/-
  Layer 15's laws: later, Made.
-/
import Derived.Test.YtijpgkkhjjpjoaaRewAwake
import Derived.Test.YtijpgkkhjjpjoaaWactRow
import Derived.Test.YtijpgkkhjjpjoaaOctRef
import Derived.Test.YtijpgkkhjjpjoaaMask
namespace Go.Proofs.Ytijpgkkhjjpjoaa.rew
open Go.RowKit mem
open Go.Proofs.Ytijpgkkhjjpjoaa.args (Wact StrsAt)
set_option linter.unusedVariables false

def laterV (t : Int) (z : Wact) : Int := if z.back = true then max (t - z.lat % 65536) 0 else t + z.lat % 65536
theorem later_bd (t : Int) (z : Wact) (h : 0 ≤ t) : 0 ≤ laterV t z ∧ laterV t z ≤ t + 65535 := by unfold laterV; split <;> omega
theorem later (t : Int) (z : Wact) (w : World) (h0 : 0 ≤ t) (h1 : t ≤ 1125899906842624) :
    Calls Try.prog 9 #[.int .i64 t, .agg z.cs] w fun e w' => e = .returned (.int .i64 (laterV t z)) ∧ New w w' := by
  have m1 : bits .and .i64 z.lat 65535 = z.lat % 65536 := mask.and_mask z.lat 65535 16 (by omega) rfl
  obtain ⟨src, lat, back, ta, tn, tc, tz⟩ := z
  dsimp only at *
  obtain ⟨d, hd⟩ : ∃ d, lat % 65536 = d := ⟨_, rfl⟩
  rw [hd] at m1
  have d0 : 0 ≤ d := by omega
  have d1 : d ≤ 65535 := by omega
  have HV : Hid (laterV t ⟨src, lat, back, ta, tn, tc, tz⟩ = if back = true then max (t - d) 0 else t + d) := Lib.hid (by unfold laterV; rw [hd])
  clear hd
  cases back
  · have s1 : IntKind.i64.wrap (t + d) = t + d := IntWalk.i64_in _ (by omega)
    rw [HV.out]
    clear HV
    go_enter Try.func9, Try.ntmps9
    go_wp2
    go_ret
    exact ⟨rfl, (Turns.refl _ _).alloc _⟩
  · have s1 : IntKind.i64.wrap (t - d) = t - d := IntWalk.i64_in _ (by omega)
    have HV2 : Hid ((if t - d < 0 then (0 : Int) else t - d) = laterV t ⟨src, lat, true, ta, tn, tc, tz⟩) := Lib.hid (by rw [HV.out, if_pos rfl]; split <;> omega)
    clear HV
    generalize laterV t ⟨src, lat, true, ta, tn, tc, tz⟩ = V at *
    have e1 := HV2.out
    go_enter Try.func9, Try.ntmps9
    go_wp2
    go_ret
    exact ⟨rfl, (Turns.refl _ _).alloc _⟩

abbrev RUT : TypeId := 74
abbrev AT : TypeId := 32
abbrev FT : TypeId := 36
def madeU (z : Wact) (t : Int) (k : Nat) : U := ⟨k, t, decide (k + 1 = min z.tn 4), false, false, oref.cutS (z.tz k) 60, 0⟩
def madeL (z : Wact) (t : Int) : Nat → List U
  | 0 => []
  | k + 1 => madeL z t k ++ [madeU z t k]
theorem madeL_len (z : Wact) (t : Int) (k : Nat) : (madeL z t k).length = k := by
  induction k with
  | zero => rfl
  | succ k ih => rw [madeL, List.length_append, ih]; rfl
theorem infoU : (Try.prog.info? UT).map (fun i => (i.zero, i.size, i.bytes)) = some (some (.agg #[.int .i64 0, .int .i64 0, .bool false, .bool false, .bool false, .string ⟨#[]⟩, .int .i64 0]), 7, 48) := by kernel_rfl
theorem infoRU : (Try.prog.info? RUT).map (fun i => (i.zero, i.size, i.bytes)) = some (some (.agg #[.int .i64 0, .int .i64 0, .bool false, .bool false, .bool false, .string ⟨#[]⟩, .int .i64 0]), 7, 48) := by kernel_rfl

/-- in the middle of Made: k1 units in f, k2 told -/
structure Md (w wr : World) (pa pr pf : Nat) (z : Wact) (t : Int) (k1 k2 : Nat) (v1 v2 : Value) : Prop where
  ba : Blk wr pa z.cs AT
  br : Blk wr pr #[.slice none 0 0] FT
  bf : Blk wr pf #[v1] FT
  o1 : Owns UE UT wr v1 (madeL z t k1)
  o2 : Owns UE RUT wr v2 (madeL z t k2)
  d1 : ∀ g, v1.ownBlock = some g → pf < g
  d2 : ∀ g, v2.ownBlock = some g → pf < g
  d12 : ∀ g, v1.ownBlock = some g → v2.ownBlock ≠ some g
  n : New w wr
section
variable {w wr W w1 : World} {pa pr pf : Nat} {z : Wact} {t : Int} {k1 k2 : Nat} {v1 v2 v' : Value}
theorem Md.new (h : Md w wr pa pr pf z t k1 k2 v1 v2) (k : New wr W) : Md w W pa pr pf z t k1 k2 v1 v2 :=
  ⟨k.blk h.ba (fun h => h), k.blk h.br (fun h => h), k.blk h.bf (fun h => h), h.o1.turns k (fun _ _ h => h), h.o2.turns k (fun _ _ h => h), h.d1, h.d2, h.d12, h.n.trans (k.mono (fun _ _ h => h.elim))⟩
theorem Md.app1 (h : Md w W pa pr pf z t k1 k2 v1 v2) (ha : pa < pr) (hr : pr < pf) (hw : w.heap.size ≤ pa) (hown : Owns UE UT w1 v' (madeL z t k1 ++ [madeU z t k1])) (hg : W.grownBy w1 v1.ownBlock) (hat : v'.ownBlock = v1.ownBlock ∨ v'.ownBlock = some W.heap.size) :
    Md w (w1.setCell ⟨pf, 0, none⟩ v') pa pr pf z t (k1 + 1) k2 v' v2 := by
  have h8 := Turns.of_grown hg
  have hlf := h.bf.lt
  have nb : ∀ b, b ≤ pf → ¬ some b = v1.ownBlock := fun b hb e => by have := h.d1 b e.symm; omega
  have bf1 : Blk w1 pf #[v1] FT := h8.blk h.bf (nb pf (Nat.le_refl _))
  have vp : ∀ g, v'.ownBlock = some g → pf < g := fun g hg' => by
    rcases hat with e | e
    · exact h.d1 g (e ▸ hg')
    · rw [e] at hg'; injection hg' with hg'; omega
  refine ⟨(h8.blk h.ba (nb pa (by omega))).setOther (a := ⟨pf, 0, none⟩) (show pf ≠ pa by omega) _, (h8.blk h.br (nb pr (by omega))).setOther (a := ⟨pf, 0, none⟩) (show pf ≠ pr by omega) _, bf1.set 0 v', ?_, ?_, vp, h.d2, ?_, ?_⟩
  · exact hown.turns ((Turns.refl (· = pf) w1).setCell (.inl rfl) _) (fun g hg' e => by have := vp g hg'; omega)
  · have : Owns UE RUT w1 v2 (madeL z t k2) := h.o2.turns h8 (fun g hg' e => h.d12 g e.symm hg')
    exact this.turns ((Turns.refl (· = pf) w1).setCell (.inl rfl) _) (fun g hg' e => by have := h.d2 g hg'; omega)
  · intro g hg'
    rcases hat with e | e
    · exact h.d12 g (e ▸ hg')
    · rw [e] at hg'; injection hg' with hg'; subst hg'
      intro e2; have := h.o2.lt _ e2; omega
  · refine Turns.setCell (h.n.trans (h8.mono (fun k _ hk => .inr ?_))) (.inr (show _ ≤ pf by omega)) _
    have := h.d1 k hk.symm; omega
theorem Md.app2 (h : Md w W pa pr pf z t k1 k2 v1 v2) (ha : pa < pr) (hr : pr < pf) (hw : w.heap.size ≤ pa) (hown : Owns UE RUT w1 v' (madeL z t k2 ++ [madeU z t k2])) (hg : W.grownBy w1 v2.ownBlock) (hat : v'.ownBlock = v2.ownBlock ∨ v'.ownBlock = some W.heap.size) :
    Md w w1 pa pr pf z t k1 (k2 + 1) v1 v' := by
  have h8 := Turns.of_grown hg
  have nb : ∀ b, b ≤ pf → ¬ some b = v2.ownBlock := fun b hb e => by have := h.d2 b e.symm; omega
  refine ⟨h8.blk h.ba (nb pa (by omega)), h8.blk h.br (nb pr (by omega)), h8.blk h.bf (nb pf (Nat.le_refl _)), h.o1.turns h8 (fun g hg' e => h.d12 g hg' e.symm), hown, h.d1, ?_, ?_, ?_⟩
  · intro g hg'
    rcases hat with e | e
    · exact h.d2 g (e ▸ hg')
    · rw [e] at hg'; injection hg' with hg'; have := h.bf.lt; omega
  · intro g hg' e2
    rcases hat with e | e
    · exact h.d12 g hg' (e ▸ e2)
    · rw [e] at e2; injection e2 with e2; have := h.o1.lt _ hg'; omega
  · refine h.n.trans (h8.mono (fun k _ hk => .inr ?_))
    have := h.d2 k hk.symm; omega
end

/-- a region that makes memory, and reads two cells -/
abbrev HeldM (w w' : World) (p1 o1 p2 o2 : Nat) (x1 x2 : Value) : Prop :=
  New w w' ∧ p1 < w'.heap.size ∧ p2 < w'.heap.size ∧ w'.cell? ⟨p1, o1, none⟩ = some x1 ∧ w'.cell? ⟨p2, o2, none⟩ = some x2
section
variable {w w1 w2 : World} {p1 o1 p2 o2 : Nat} {x1 x2 : Value}
theorem heldM_drew (h : HeldM w w1 p1 o1 p2 o2 x1 x2) : HeldM w w1.drew p1 o1 p2 o2 x1 x2 := by
  obtain ⟨hn, h⟩ := h
  exact ⟨hn.drew, h⟩
theorem heldM_new (k : New w1 w2) (h : HeldM w w1 p1 o1 p2 o2 x1 x2) : HeldM w w2 p1 o1 p2 o2 x1 x2 := by
  obtain ⟨hn, hl, hb, a1, a2⟩ := h
  exact ⟨hn.trans (k.mono (fun _ _ h => h.elim)), Nat.lt_of_lt_of_le hl k.size, Nat.lt_of_lt_of_le hb k.size, (k.cell (a := ⟨p1, o1, none⟩) hl (fun h => h)).trans a1, (k.cell (a := ⟨p2, o2, none⟩) hb (fun h => h)).trans a2⟩
theorem heldM_alloc (o : Obj) (h : HeldM w w1 p1 o1 p2 o2 x1 x2) : HeldM w (w1.alloc o) p1 o1 p2 o2 x1 x2 := heldM_new ((Turns.refl _ _).alloc o) h
end

/-- what Made answers -/
def MadeRes (w : World) (z : Wact) (t : Int) (e : Ending) (w' : World) : Prop :=
  ∃ v1 v2, e = .returned (.tuple #[.agg #[v1], v2]) ∧ Owns UE UT w' v1 (madeL z t (min z.tn 4)) ∧ Owns UE RUT w' v2 (madeL z t (min z.tn 4)) ∧ (∀ g, v1.ownBlock = some g → w.heap.size ≤ g) ∧ (∀ g, v2.ownBlock = some g → w.heap.size ≤ g) ∧ New w w'

set_option maxHeartbeats 1000000 in
theorem made (z : Wact) (t : Int) (w : World) (hz : StrsAt w z.ta z.tn z.tz) :
    Calls Try.prog 10 #[.agg z.cs, .int .i64 t] w (MadeRes w z t) := by
  obtain ⟨hn, hsz, hcell⟩ := hz
  unfold maxLen at hn hsz
  have HC := Lib.hid hcell
  have HSZ := Lib.hid hsz
  clear hcell hsz
  have HCut := Lib.hid (fun s w => oref.cut s 60 (by omega) w)
  have H0 : Hid (Md w (((w.alloc (.cells z.cs AT)).alloc (.cells #[.slice none 0 0] FT)).alloc (.cells #[.slice none 0 0] FT)) w.heap.size (w.heap.size + 1) (w.heap.size + 1 + 1) z t 0 0 (.slice none 0 0) (.slice none 0 0)) := by
    refine Lib.hid ⟨((Blk.new w _ _).alloc _).alloc _, ?_, ?_, Owns.nil _ _, Owns.nil _ _, (fun g h => by cases h), (fun g h => by cases h), (fun g h => by cases h), (((Turns.refl _ _).alloc _).alloc _).alloc _⟩
    · have := (Blk.new (w.alloc (.cells z.cs AT)) #[.slice none 0 0] FT).alloc (.cells #[.slice none 0 0] FT)
      rwa [World.size_alloc] at this
    · have := Blk.new ((w.alloc (.cells z.cs AT)).alloc (.cells #[.slice none 0 0] FT)) #[.slice none 0 0] FT
      rwa [World.size_alloc, World.size_alloc] at this
  go_enter Try.func10, Try.ntmps10
  go_wp2_with fail
  generalize (((w.alloc (.cells z.cs AT)).alloc (.cells #[.slice none 0 0] FT)).alloc (.cells #[.slice none 0 0] FT)) = w3 at *
  generalize hpf : w.heap.size + 1 + 1 = pf at *
  generalize hpr : w.heap.size + 1 = pr at *
  generalize hpa : w.heap.size = pa at *
  have h1 : pa < pr := by omega
  have h2 : pr < pf := by omega
  have HP : Hid (w.heap.size ≤ pa ∧ pa < pr ∧ pr < pf) := Lib.hid ⟨by omega, h1, h2⟩
  clear hpf hpr hpa h1 h2
  go_loopw [7, 8] (fun told i wr => ∃ k : Nat, ∃ v1 v2 : Value, k ≤ z.tn ∧ k ≤ 4 ∧ told = v2 ∧ i = .int .i64 k ∧ Md w wr pa pr pf z t k k v1 v2) (fun _ i _ => z.tn - (intOf i).toNat)
  case atStart => exact ⟨0, _, _, Nat.zero_le _, by omega, rfl, rfl, H0.out⟩
  case round =>
    obtain ⟨k, v1, v2, hk, hk4, rfl, rfl, hmd⟩ := hrel
    clear H0
    have a3 : wr.cell? ⟨pa, 3, none⟩ = some (.slice z.ta z.tn z.tc) := hmd.ba.cell 3
    by_cases hgo : k < z.tn ∧ k < 4
    · obtain ⟨hlt, hlt2⟩ := hgo
      obtain ⟨b, off, hta, hb, hcell⟩ := HC.out.resolve_left (by omega)
      have hck : wr.cell? ⟨b, off + k, none⟩ = some (.string (z.tz k)) := (hmd.n.cell (by have := hmd.ba.lt; exact World.block_lt_of_cell? _ _ (hcell k hlt)) (fun h => h)).trans (hcell k hlt)
      have hzs := HSZ.out k hlt
      have hU : Hid ((madeU z t k).cs = [.int .i64 k, .int .i64 t, .bool (decide (k + 1 = min z.tn 4)), .bool false, .bool false, .string (oref.cutS (z.tz k) 60), .int .i64 0]) := Lib.hid rfl
      have HCu := Lib.hid (fun w => HCut.out (z.tz k) w)
      have HM := Lib.hid hmd
      rw [hta] at a3
      have hpl := hmd.ba.lt
      have hbl : b < wr.heap.size := World.block_lt_of_cell? _ _ hck
      clear HCut HC HSZ hcell hmd hta hb
      generalize oref.cutS (z.tz k) 60 = cu at *
      generalize z.tz k = tk at *
      generalize htn : z.tn = tn at *
      generalize z.tc = tc at *
      have HTN := Lib.hid htn
      clear htn
      have kn : (k : Int) < (tn : Int) := by omega
      have k0 : (0 : Int) ≤ (k : Int) := by omega
      have hd : decide ((k : Int) < 4) = true := by simp; omega
      obtain ⟨mn, hmn⟩ : ∃ mn : Int, (if (4 : Int) < (tn : Int) then (4 : Int) else (tn : Int)) = mn := ⟨_, rfl⟩
      have mn1 : 1 ≤ mn ∧ mn ≤ 4 := by rw [← hmn]; split <;> omega
      have hmk : ((k : Int) == mn - 1) = decide (k + 1 = min tn 4) := by
        have : mn = ((min tn 4 : Nat) : Int) := by rw [← hmn]; split <;> omega
        rw [this]
        by_cases hh : k + 1 = min tn 4
        · rw [decide_eq_true hh]; exact beq_iff_eq.2 (by omega)
        · rw [decide_eq_false hh]; exact beq_eq_false_iff_ne.2 (by omega)
      obtain ⟨mr, hmr⟩ : ∃ mr, decide (k + 1 = min tn 4) = mr := ⟨_, rfl⟩
      rw [hmr] at hmk hU
      clear hmr
      have wm : IntKind.i64.wrap (mn - 1) = mn - 1 := IntWalk.i64_in _ (by omega)
      go_upto_region 6 with fail
      go_cut [9] (fun v9 wx => ∃ pu, v9 = .pointer (some ⟨pu, 0, none⟩) ∧ wr.heap.size ≤ pu ∧ New wr wx ∧ Blk wx pu #[.int .i64 k, .int .i64 t, .bool mr, .bool false, .bool false, .string cu, .int .i64 0] UT)
      case first =>
        clear HM hU HTN
        have hh : HeldM wr wr pa 3 b (off + k) (.slice (some ⟨b, off, none⟩) tn tc) (.string tk) := ⟨Turns.refl _ _, hpl, hbl, a3, hck⟩
        have HH := Lib.hid hh
        go_region_held3 (fun w' => New wr w' ∧ pa < w'.heap.size ∧ b < w'.heap.size ∧ w'.cell? ⟨pa, 3, none⟩ = some (.slice (some ⟨b, off, none⟩) tn tc) ∧ w'.cell? ⟨b, off + k, none⟩ = some (.string tk))
          (first
            | (with_reducible assumption)
            | ((with_reducible refine heldM_drew ?_); with_reducible assumption)
            | ((with_reducible refine heldM_alloc _ ?_); with_reducible assumption)
            | ((with_reducible refine heldM_drew (heldM_alloc _ ?_)); with_reducible assumption)
            | ((with_reducible refine heldM_new ?_ HH.out); (repeat (first | (with_reducible refine Turns.alloc ?_ _) | (with_reducible refine Turns.drew ?_) | (with_reducible refine Turns.setCell ?_ (.inr (Nat.le_refl _)) _))); exact Turns.refl _ _))
          ((go_at_call 22; (with_reducible refine Calls.mono (HCu.out _) ?_); rintro en wq ⟨rfl, rfl⟩))
        all_goals
          go_wp2_with fail
          go_meet
          case rel => exact ⟨_, rfl, Nat.le_refl _, ((Turns.refl _ _).alloc _).drew, (Blk.new _ _ _).drew⟩
      case rest =>
        obtain ⟨pu, rfl, hpuw, n4, hbu⟩ := hcut
        have hpup : pf ≠ pu := by have := HM.out.bf.lt; omega
        have hpv1 : ¬ some pu = v1.ownBlock := fun e => by have := HM.out.o1.lt pu e.symm; omega
        have hm4 := HM.out.new n4
        obtain ⟨u0, u1, u2, u3, u4, u5, u6⟩ : _ ∧ _ ∧ _ ∧ _ ∧ _ ∧ _ ∧ _ := ⟨hbu.cell 0, hbu.cell 1, hbu.cell 2, hbu.cell 3, hbu.cell 4, hbu.cell 5, hbu.cell 6⟩
        have HBU := Lib.hid hbu
        have p0 : wc.cell? ⟨pf, 0, none⟩ = some v1 := hm4.bf.cell 0
        have fp : wc.frozen? ⟨pf, 0, none⟩ = false := hm4.bf.free 0
        have hpf := hm4.bf.lt
        have hpu := hbu.lt
        have HM4 := Lib.hid (hm4.new ((Turns.refl (fun _ => False) wc).alloc (.cells (madeU z t k).cs.toArray UT)))
        have hbl7 : (wc.alloc (.cells (madeU z t k).cs.toArray UT)).heap[wc.heap.size]? = some (.cells (madeU z t k).cs.toArray UT (0, 0)) := heap_alloc_new wc _
        have HB7 := Lib.hid hbl7
        have HL7 : Hid ((madeL z t k).length + 1 ≤ 1048576) := Lib.hid (by rw [madeL_len]; omega)
        clear hbl7 hm4 HM hbu a3 hck HCu
        rw [hU.out] at HM4 HB7
        go_wp2_with (at_builtin; refine wpList_append_one (E := UE) Try.underlying34 infoU rfl (by decide) (by decide) rfl _ _ rfl v1 (madeL z t k) (madeU z t k) rfl HM4.out.o1 _ rfl (by exact hU.out.symm ▸ HB7.out) HL7.out ?_)
        intro v' w8 hown hgrow hat
        rw [← hU.out] at HM4
        have h8 := Turns.of_grown hgrow
        have hat2 : v'.ownBlock = v1.ownBlock ∨ v'.ownBlock = some (wc.alloc (.cells (madeU z t k).cs.toArray UT)).heap.size := by rw [World.size_alloc]; exact hat
        have hgr2 : (wc.alloc (.cells (madeU z t k).cs.toArray UT)).grownBy w8 v1.ownBlock := by rw [hU.out]; exact hgrow
        have M8 := Lib.hid (HM4.out.app1 HP.out.2.1 HP.out.2.2 HP.out.1 hown hgr2 hat2)
        have bu8 : Blk w8 pu #[.int .i64 k, .int .i64 t, .bool mr, .bool false, .bool false, .string cu, .int .i64 0] UT := h8.blk (HBU.out.alloc _) hpv1
        have hnpf : ¬ some pf = v1.ownBlock := fun e => by have := HM4.out.d1 pf e.symm; omega
        have bf8 : Blk w8 pf #[v1] FT := h8.blk (by rw [← hU.out]; exact HM4.out.bf) hnpf
        have q0 : w8.cell? ⟨pf, 0, none⟩ = some v1 := bf8.cell 0
        have qf : w8.frozen? ⟨pf, 0, none⟩ = false := bf8.free 0
        obtain ⟨ao, c8, hv', _, _, _⟩ := hown.form
        rw [show (madeL z t k ++ [madeU z t k]).length = k + 1 by rw [List.length_append, madeL_len]; rfl] at hv'
        have BU9 := Lib.hid (bu8.setOther (a := ⟨pf, 0, none⟩) hpup v')
        clear HM4 HB7 HL7 hown hgrow hat hat2 hgr2 h8 bu8 bf8 hpv1 u0 u1 u2 u3 u4 u5 u6 p0 fp HBU n4
        subst hv'
        go_upto_region 8 with fail
        have m9 := M8.out
        have bu9 := BU9.out
        clear M8 BU9
        generalize w8.setCell ⟨pf, 0, none⟩ (.slice ao (k + 1) c8) = w9 at *
        generalize Value.slice ao (k + 1) c8 = v1' at *
        obtain ⟨u0, u1, u2, u3, u4, u5, u6⟩ : _ ∧ _ ∧ _ ∧ _ ∧ _ ∧ _ ∧ _ := ⟨bu9.cell 0, bu9.cell 1, bu9.cell 2, bu9.cell 3, bu9.cell 4, bu9.cell 5, bu9.cell 6⟩
        have HM9 := Lib.hid (m9.new ((Turns.refl (fun _ => False) w9).alloc (.cells (madeU z t k).cs.toArray RUT)))
        have hbl9 : (w9.alloc (.cells (madeU z t k).cs.toArray RUT)).heap[w9.heap.size]? = some (.cells (madeU z t k).cs.toArray RUT (0, 0)) := heap_alloc_new w9 _
        have HB9 := Lib.hid hbl9
        have HL9 : Hid ((madeL z t k).length + 1 ≤ 1048576) := Lib.hid (by rw [madeL_len]; omega)
        clear hbl9 m9 bu9 q0 qf
        rw [hU.out] at HM9 HB9
        go_wp2_with (at_builtin; refine wpList_append_one (E := UE) Try.underlying37 infoRU rfl (by decide) (by decide) rfl _ _ rfl u7 (madeL z t k) (madeU z t k) rfl HM9.out.o2 _ rfl (by exact hU.out.symm ▸ HB9.out) HL9.out ?_)
        intro v2' w10 hown hgrow hat
        rw [← hU.out] at HM9
        have hat2 : v2'.ownBlock = u7.ownBlock ∨ v2'.ownBlock = some (w9.alloc (.cells (madeU z t k).cs.toArray RUT)).heap.size := by rw [World.size_alloc]; exact hat
        have hgr2 : (w9.alloc (.cells (madeU z t k).cs.toArray RUT)).grownBy w10 u7.ownBlock := by rw [hU.out]; exact hgrow
        have M10 := Lib.hid (HM9.out.app2 HP.out.2.1 HP.out.2.2 HP.out.1 hown hgr2 hat2)
        clear HM9 HB9 HL9 hown hgrow hat hat2 hgr2 u0 u1 u2 u3 u4 u5 u6
        go_wp2
        go_roundw
        case rel => exact ⟨k + 1, _, _, by omega, by omega, rfl, by go_num, M10.out⟩
        case measure => simp [intOf]; omega
    · have hkn : Hid (k = min z.tn 4) := Lib.hid (by omega)
      have HM := Lib.hid hmd
      have p0 : wr.cell? ⟨pf, 0, none⟩ = some v1 := hmd.bf.cell 0
      have r0 : wr.cell? ⟨pr, 0, none⟩ = some (.slice none 0 0) := hmd.br.cell 0
      have fr0 : wr.frozen? ⟨pr, 0, none⟩ = false := hmd.br.free 0
      have hprf : pr ≠ pf := by have := HP.out.2.2; omega
      have R := HP.out
      have hfin : ∀ w', w' = wr.setCell ⟨pr, 0, none⟩ v1 → MadeRes w z t (.returned (.tuple #[.agg #[v1], u7])) w' := by
        rintro w' rfl
        have ht : Turns (· = pr) wr (wr.setCell ⟨pr, 0, none⟩ v1) := (Turns.refl (· = pr) wr).setCell (.inl rfl) _
        refine ⟨v1, u7, rfl, ?_, ?_, fun g hg => by have := HM.out.d1 g hg; omega, fun g hg => by have := HM.out.d2 g hg; omega, HM.out.n.setCell (.inr (show _ ≤ pr by omega)) _⟩
        · rw [← hkn.out]; exact HM.out.o1.turns ht (fun g hg e => by have := HM.out.d1 g hg; omega)
        · rw [← hkn.out]; exact HM.out.o2.turns ht (fun g hg e => by have := HM.out.d2 g hg; omega)
      have HF := Lib.hid hfin
      have hc0 : (wr.setCell ⟨pr, 0, none⟩ v1).cell? ⟨pr, 0, none⟩ = some v1 := (hmd.br.set 0 v1).cell 0
      have HC0 := Lib.hid hc0
      clear hfin hc0 R HC HSZ HCut
      obtain ⟨ao, c1, hv1, _, _, _⟩ := hmd.o1.form
      clear hmd
      subst hv1
      have htn0 : Hid (z.tn = z.tn) := Lib.hid rfl
      generalize z.tn = tn at *
      have hcase : (k : Int) < tn ∧ ¬ (k : Int) < 4 ∨ ¬ (k : Int) < tn := by omega
      rcases hcase with ⟨hca, hcb⟩ | hca
      all_goals
        go_wp2
        have hc0 := HC0.out
        refine bodyPost_ret (v := .tuple #[.agg #[.slice ao (madeL z t k).length c1], u7]) (by simp [results, Try.results10, go_sem, hc0]) rfl (HF.out _ rfl)
end Go.Proofs.Ytijpgkkhjjpjoaa.rew
