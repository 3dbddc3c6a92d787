/-
  ledger.Book: End.
-/
import Derived.Test.YtnpaajmcahlloaaLedAcc
import Derived.Test.YtnpaajmcahlloaaRowsG3
namespace Go.Proofs.Ytnpaajmcahlloaa.led
open Go.RowKit mem
set_option linter.unusedVariables false

def endE (L : List Fr) (n f : Int) : Int := match L[n.toNat]? with
  | some x => if 0 ≤ n then (if 1 ≤ f ∧ f ≤ 3 then (if x.fate = 0 then 0 else 14) else 3) else 12
  | none => 12
def endX (x : Fr) (f now : Int) : Fr := ⟨x.acc, f, now⟩
def endL (L : List Fr) (n f now : Int) : List Fr := if endE L n f = 0 then (match L[n.toNat]? with | some x => L.set n.toNat (endX x f now) | none => L) else L
theorem end_none {L : List Fr} {n f : Int} (now : Int) (h : hasB L n = false) : endE L n f = 12 ∧ endL L n f now = L := by
  have e : endE L n f = 12 := by
    unfold endE
    split
    · rename_i x hx
      have h1 := (List.getElem?_eq_some_iff.1 hx).1
      unfold hasB at h
      rw [if_neg (by intro h0; simp [h0] at h; omega)]
    · rfl
  exact ⟨e, by unfold endL; rw [e]; rfl⟩
theorem hasB_at {L : List Fr} {n : Int} (h : hasB L n = true) : ∃ k : Nat, n = k ∧ ∃ x, L[k]? = some x := by
  have hn : 0 ≤ n ∧ n < L.length := by unfold hasB at h; simpa using h
  exact ⟨n.toNat, by omega, L[n.toNat]'(by omega), List.getElem?_eq_getElem (by omega)⟩
theorem end_at {L : List Fr} {k : Nat} {x : Fr} {f : Int} (hx : L[k]? = some x) : endE L k f = if 1 ≤ f ∧ f ≤ 3 then (if x.fate = 0 then 0 else 14) else 3 := by
  unfold endE
  rw [show (k : Int).toNat = k by omega, hx]
  simp
theorem end_kind {L : List Fr} {k : Nat} {x : Fr} {f : Int} (now : Int) (hx : L[k]? = some x) (hf : ¬ (1 ≤ f ∧ f ≤ 3)) : endE L k f = 3 ∧ endL L k f now = L := by
  have e : endE L k f = 3 := by rw [end_at hx, if_neg hf]
  exact ⟨e, by unfold endL; rw [e]; rfl⟩
theorem end_twice {L : List Fr} {k : Nat} {x : Fr} {f : Int} (now : Int) (hx : L[k]? = some x) (hf : 1 ≤ f ∧ f ≤ 3) (h0 : x.fate ≠ 0) : endE L k f = 14 ∧ endL L k f now = L := by
  have e : endE L k f = 14 := by rw [end_at hx, if_pos hf, if_neg h0]
  exact ⟨e, by unfold endL; rw [e]; rfl⟩
theorem end_ok {L : List Fr} {k : Nat} {x : Fr} {f : Int} (now : Int) (hx : L[k]? = some x) (hf : 1 ≤ f ∧ f ≤ 3) (h0 : x.fate = 0) : endE L k f = 0 ∧ endL L k f now = L.set k (endX x f now) := by
  have e : endE L k f = 0 := by rw [end_at hx, if_pos hf, if_pos h0]
  exact ⟨e, by unfold endL; rw [e, show (k : Int).toNat = k by omega, hx]; rfl⟩

theorem cnt_set {L : List Fr} {k : Nat} {x : Fr} (y : Fr) (hx : L[k]? = some x) (c : Int) : (cnt c (L.set k y) : Int) = cnt c L - (if x.fate = c then 1 else 0) + (if y.fate = c then 1 else 0) := by
  induction L generalizing k with
  | nil => simp at hx
  | cons z L ih =>
    cases k with
    | zero =>
      simp at hx
      subst hx
      rw [List.set_cons_zero]
      unfold cnt
      rw [List.countP_cons, List.countP_cons]
      by_cases h1 : y.fate = c <;> by_cases h2 : z.fate = c <;> simp [h1, h2] <;> omega
    | succ k =>
      have := ih (k := k) (by simpa using hx)
      rw [List.set_cons_succ]
      unfold cnt at *
      rw [List.countP_cons, List.countP_cons]
      omega

/-- the row once the two cells of a frame are stored, in either order -/
theorem row_end {w : World} {g c : Nat} {L : List Fr} {k : Nat} {x : Fr} (h : Owns FE FT w (.slice (some ⟨g, 0, none⟩) L.length c) L) (hx : L[k]? = some x) (f now : Int) :
    Owns FE FT ((w.setCell ⟨g, k * 3 + 1, none⟩ (.int .i64 f)).setCell ⟨g, k * 3 + 2, none⟩ (.int .i64 now)) (.slice (some ⟨g, 0, none⟩) L.length c) (L.set k (endX x f now)) ∧
    Owns FE FT ((w.setCell ⟨g, k * 3 + 2, none⟩ (.int .i64 now)).setCell ⟨g, k * 3 + 1, none⟩ (.int .i64 f)) (.slice (some ⟨g, 0, none⟩) L.length c) (L.set k (endX x f now)) := by
  have hk := (List.getElem?_eq_some_iff.1 hx).1
  constructor
  · have o1 := h.setCell (g := g) (j := k) (i := 1) rfl hx (y := ⟨x.acc, f, x.en⟩) (.int .i64 f) (by decide) rfl
    have o2 := o1.setCell (g := g) (j := k) (i := 2) rfl (x := ⟨x.acc, f, x.en⟩) (by rw [List.getElem?_set_self hk]) (y := endX x f now) (.int .i64 now) (by decide) rfl
    rwa [List.set_set] at o2
  · have o1 := h.setCell (g := g) (j := k) (i := 2) rfl hx (y := ⟨x.acc, x.fate, now⟩) (.int .i64 now) (by decide) rfl
    have o2 := o1.setCell (g := g) (j := k) (i := 1) rfl (x := ⟨x.acc, x.fate, now⟩) (by rw [List.getElem?_set_self hk]) (y := endX x f now) (.int .i64 f) (by decide) rfl
    rwa [List.set_set] at o2

/-- in the middle of End: the row is done, the counts are a b c d -/
structure Mid (w wx : World) (p : Nat) (v : Value) (L' : List Fr) (a b c d : Int) (i : Nat) : Prop where
  blk : Blk wx p #[v, .int .i64 a, .int .i64 b, .int .i64 c, .int .i64 d, .int .i64 i] BT
  own : Owns FE FT wx v L'
  t : Turns (Foot p v) w wx
section
variable {w wx : World} {p : Nat} {v : Value} {L' : List Fr} {a b c d : Int} {i : Nat}
theorem Mid.off (h : Mid w wx p v L' a b c d i) : ∀ g, v.ownBlock = some g → g ≠ p := fun g hg e => own_ne h.own h.blk (by decide) (by rw [hg, e])
theorem Mid.drew (h : Mid w wx p v L' a b c d i) : Mid w wx.drew p v L' a b c d i := ⟨h.blk, h.own, h.t.drew⟩
theorem Mid.s1 (h : Mid w wx p v L' a b c d i) (u : Int) : Mid w (wx.setCell ⟨p, 1, none⟩ (.int .i64 u)) p v L' u b c d i :=
  ⟨h.blk.set 1 _, h.own.turns ((Turns.refl (· = p) wx).setCell (.inl rfl) _) (fun g hg e => h.off g hg e), h.t.setCell (.inl (.inl rfl)) _⟩
theorem Mid.s2 (h : Mid w wx p v L' a b c d i) (u : Int) : Mid w (wx.setCell ⟨p, 2, none⟩ (.int .i64 u)) p v L' a u c d i :=
  ⟨h.blk.set 2 _, h.own.turns ((Turns.refl (· = p) wx).setCell (.inl rfl) _) (fun g hg e => h.off g hg e), h.t.setCell (.inl (.inl rfl)) _⟩
theorem Mid.s3 (h : Mid w wx p v L' a b c d i) (u : Int) : Mid w (wx.setCell ⟨p, 3, none⟩ (.int .i64 u)) p v L' a b u d i :=
  ⟨h.blk.set 3 _, h.own.turns ((Turns.refl (· = p) wx).setCell (.inl rfl) _) (fun g hg e => h.off g hg e), h.t.setCell (.inl (.inl rfl)) _⟩
theorem Mid.s4 (h : Mid w wx p v L' a b c d i) (u : Int) : Mid w (wx.setCell ⟨p, 4, none⟩ (.int .i64 u)) p v L' a b c u i :=
  ⟨h.blk.set 4 _, h.own.turns ((Turns.refl (· = p) wx).setCell (.inl rfl) _) (fun g hg e => h.off g hg e), h.t.setCell (.inl (.inl rfl)) _⟩
theorem Mid.cells (h : Mid w wx p v L' a b c d i) : wx.cell? ⟨p, 1, none⟩ = some (.int .i64 a) ∧ wx.cell? ⟨p, 2, none⟩ = some (.int .i64 b) ∧ wx.cell? ⟨p, 3, none⟩ = some (.int .i64 c) ∧ wx.cell? ⟨p, 4, none⟩ = some (.int .i64 d) :=
  ⟨h.blk.cell 1, h.blk.cell 2, h.blk.cell 3, h.blk.cell 4⟩
end
theorem Mid.bk {w0 w wx : World} {p : Nat} {v : Value} {L : List Fr} {a b c d : Int} {i k : Nat} {x : Fr} (h0 : Bk w0 p v L i) (hx : L[k]? = some x) (hp : x.fate = 0) {f now : Int} (hf : 1 ≤ f ∧ f ≤ 3) (n0 : 0 ≤ now) (n1 : now ≤ 1048576)
    (h : Mid w wx p v (L.set k (endX x f now)) a b c d i) (ha : a = cnt 0 L - 1) (hb : b = cnt 1 L + (if f = 1 then 1 else 0)) (hc : c = cnt 2 L + (if f = 2 then 1 else 0)) (hd : d = cnt 3 L + (if f = 3 then 1 else 0)) : Bk wx p v (L.set k (endX x f now)) i := by
  have hxo := h0.ok x (List.mem_of_getElem? hx)
  have hcs : ∀ c : Int, (cnt c (L.set k (endX x f now)) : Int) = cnt c L - (if x.fate = c then 1 else 0) + (if f = c then 1 else 0) := cnt_set (endX x f now) hx
  have e0 : a = (cnt 0 (L.set k (endX x f now)) : Int) := by rw [hcs, ha, hp]; simp; omega
  have e1 : b = (cnt 1 (L.set k (endX x f now)) : Int) := by rw [hcs, hb, hp]; simp
  have e2 : c = (cnt 2 (L.set k (endX x f now)) : Int) := by rw [hcs, hc, hp]; simp
  have e3 : d = (cnt 3 (L.set k (endX x f now)) : Int) := by rw [hcs, hd, hp]; simp
  refine ⟨?_, h.own, by rw [List.length_set]; exact h0.len, ?_, by rw [List.length_set]; exact h0.il, ?_⟩
  · have hb := h.blk
    rw [e0, e1, e2, e3] at hb
    exact hb
  · intro y hy
    rcases List.mem_or_eq_of_mem_set hy with hy | rfl
    · exact h0.ok y hy
    · exact ⟨hxo.a0, hxo.a1, by show 0 ≤ f; omega, hf.2, n0, n1⟩
  · intro j y hj hy
    by_cases e : j = k
    · subst e
      exact absurd hp (h0.past j x hj hx)
    · rw [List.getElem?_set_ne (by omega)] at hy
      exact h0.past j y hj hy

set_option maxHeartbeats 2000000 in
theorem end_ (p : Nat) (v : Value) (L : List Fr) (i : Nat) (n f now : Int) (w : World) (h : Bk w p v L i) (n0 : 0 ≤ now) (n1 : now ≤ 1048576) :
    Calls Try.prog 9 #[.pointer (some ⟨p, 0, none⟩), .int .i64 n, .int .i64 f, .int .i64 now] w fun e w' => e = .returned (.int .i64 (endE L n f)) ∧ ∃ j, Lft w w' p v v (endL L n f now) j := by
  have HH := Lib.hid (has p v L i n w h)
  cases hb : hasB L n
  · have HE := Lib.hid (end_none (f := f) now hb)
    rw [HE.out.1, HE.out.2]
    rw [hb] at HH
    have HL := Lib.hid (Lft.refl h)
    clear hb h
    go_enter Try.func9, Try.ntmps9
    go_wp2_with fail
    refine HH.out.mono ?_
    rintro e w1 ⟨rfl, rfl⟩
    go_wp2
    go_ret
    exact ⟨rfl, i, HL.out⟩
  · obtain ⟨k, rfl, x, hx⟩ := hasB_at hb
    rw [hb] at HH
    have HX := Lib.hid hx
    have HBK := Lib.hid h
    have hlen := h.len
    have hkl : k < L.length := (List.getElem?_eq_some_iff.1 hx).1
    by_cases h1 : f < 1
    · have HE := Lib.hid (end_kind (f := f) now hx (by omega))
      rw [HE.out.1, HE.out.2]
      have d1 : decide (f < 1) = true := decide_eq_true h1
      clear hb h h1 hx
      go_enter Try.func9, Try.ntmps9
      go_wp2_with fail
      refine HH.out.mono ?_
      rintro e w1 ⟨rfl, rfl⟩
      go_wp2
      go_ret
      exact ⟨rfl, i, Lft.refl HBK.out⟩
    · have d1 : decide (f < 1) = false := decide_eq_false h1
      by_cases h2 : 3 < f
      · have HE := Lib.hid (end_kind (f := f) now hx (by omega))
        rw [HE.out.1, HE.out.2]
        have d2 : decide (3 < f) = true := decide_eq_true h2
        clear hb h h1 h2 hx
        go_enter Try.func9, Try.ntmps9
        go_wp2_with fail
        refine HH.out.mono ?_
        rintro e w1 ⟨rfl, rfl⟩
        go_wp2
        go_ret
        exact ⟨rfl, i, Lft.refl HBK.out⟩
      · have d2 : decide (3 < f) = false := decide_eq_false h2
        have hf : 1 ≤ f ∧ f ≤ 3 := by omega
        have HF := Lib.hid hf
        obtain ⟨ao, c, hv, hc, hat⟩ := h.at_
        obtain ⟨g, rfl, hgp, hg, z0, z1, z2⟩ := hat k x hx
        have c0 := h.c0
        clear hat z0 z2
        by_cases h0 : x.fate = 0
        · have HE := Lib.hid (end_ok (f := f) now hx hf h0)
          have HP := Lib.hid h0
          rw [HE.out.1, HE.out.2]
          have hb0 : (x.fate != 0) = false := by simp [h0]
          have hfr : ∀ o, w.frozen? ⟨g, o, none⟩ = false := by
            rcases h.own.2 with ⟨e, _⟩ | ⟨g', cap, cur, e, _, hg, _⟩
            · rw [hv] at e; exact absurd e (by simp)
            · rw [hv] at e
              injection e with e _ _
              injection e with e
              injection e with e
              subst e; exact (show Blk w g cur FT from hg).free
          have q1 := hfr (k * 3 + 1)
          have q2 := hfr (k * 3 + 2)
          have hz2 : ∃ u, w.cell? ⟨g, k * 3 + 2, none⟩ = some (.int .i64 u) := by
            obtain ⟨ao', c', hv', _, hat'⟩ := h.at_
            obtain ⟨g', e, _, _, _, _, z⟩ := hat' k x hx
            rw [hv] at hv'
            injection hv' with e2 _ _
            rw [e] at e2
            injection e2 with e2
            injection e2 with e2
            subst e2
            exact ⟨_, z⟩
          obtain ⟨u2, z2⟩ := hz2
          have hro := h.own
          rw [hv] at hro
          have HRO := Lib.hid (row_end hro hx f now)
          have HBL := Lib.hid h.blk
          subst hv
          clear hb h h1 h2 hx hro hfr h0 hf
          generalize hxf : x.fate = xf at *
          have HXF := Lib.hid hxf
          clear hxf
          generalize hlL : L.length = len at *
          have HLL := Lib.hid hlL
          clear hlL
          have hknI : (k : Int) < (len : Int) := by omega
          go_enter Try.func9, Try.ntmps9
          go_wp2_with fail
          refine HH.out.mono ?_
          rintro e w1 ⟨rfl, rfl⟩
          go_upto_region 7 with fail
          go_cut [] (fun wx => Mid w1 wx p (.slice (some ⟨g, 0, none⟩) len c) (L.set k (endX x f now)) (cnt 0 L) (cnt 1 L) (cnt 2 L) (cnt 3 L) i)
          case first =>
            go_region
            all_goals
              go_wp2_with fail
              go_meet
              case rel =>
                first
                  | exact ⟨(HBL.out.setOther (a := ⟨g, k * 3 + 1, none⟩) hgp _).setOther (a := ⟨g, k * 3 + 2, none⟩) hgp _, HRO.out.1, ((((Turns.refl _ _).setCell (p := ⟨g, k * 3 + 1, none⟩) (.inl (.inr rfl)) _).setCell (p := ⟨g, k * 3 + 2, none⟩) (.inl (.inr rfl)) _)).drew⟩
                  | exact ⟨(HBL.out.setOther (a := ⟨g, k * 3 + 2, none⟩) hgp _).setOther (a := ⟨g, k * 3 + 1, none⟩) hgp _, HRO.out.2, ((((Turns.refl _ _).setCell (p := ⟨g, k * 3 + 2, none⟩) (.inl (.inr rfl)) _).setCell (p := ⟨g, k * 3 + 1, none⟩) (.inl (.inr rfl)) _)).drew⟩
          case rest =>
            have HM := Lib.hid hcut
            obtain ⟨b1, b2, b3, b4⟩ := hcut.cells
            have f1 := hcut.blk.free 1
            have l0 := cnt_le 0 L
            have l1 := cnt_le 1 L
            have l2 := cnt_le 2 L
            have l3 := cnt_le 3 L
            have HCN : Hid (cnt 0 L ≤ 1000 ∧ cnt 1 L ≤ 1000 ∧ cnt 2 L ≤ 1000 ∧ cnt 3 L ≤ 1000) := Lib.hid (by have := HLL.out; omega)
            clear hcut z1 z2 q1 q2 c0 hb0 l1 l2 l3 b2 b3 b4
            have hcn := HCN.out.1
            have s1 : IntKind.i64.wrap ((cnt 0 L : Int) - 1) = (cnt 0 L : Int) - 1 := IntWalk.i64_in _ (by omega)
            go_upto_region 8 with fail
            go_cut [] (fun wx => Mid w1 wx p (.slice (some ⟨g, 0, none⟩) len c) (L.set k (endX x f now)) ((cnt 0 L : Int) - 1) (cnt 1 L) (cnt 2 L) (cnt 3 L) i)
            case first =>
              go_region
              all_goals
                go_wp2_with fail
                go_meet
                case rel => exact (HM.out.s1 _).drew
            case rest =>
              have HM2 := Lib.hid hcut
              obtain ⟨b1, b2, b3, b4⟩ := hcut.cells
              have f2 := hcut.blk.free 2
              have f3 := hcut.blk.free 3
              have f4 := hcut.blk.free 4
              clear hcut HM l0 s1 b1 f1
              obtain ⟨_, hc1, hc2, hc3⟩ := HCN.out
              have hf3 : f = 1 ∨ f = 2 ∨ f = 3 := by have := HF.out; omega
              rcases hf3 with rfl | rfl | rfl
              · have s1 : IntKind.i64.wrap ((cnt 1 L : Int) + 1) = (cnt 1 L : Int) + 1 := IntWalk.i64_in _ (by omega)
                go_upto_region 9 with fail
                go_cut [] (fun wx => Mid w1 wx p (.slice (some ⟨g, 0, none⟩) len c) (L.set k (endX x 1 now)) ((cnt 0 L : Int) - 1) ((cnt 1 L : Int) + 1) (cnt 2 L) (cnt 3 L) i)
                case first =>
                  go_region
                  all_goals
                    go_wp2_with fail
                    go_meet
                    case rel => exact (HM2.out.s2 _).drew
                case rest =>
                  have HB := Lib.hid (hcut.bk HBK.out HX.out (HXF.out.trans HP.out) HF.out n0 n1 rfl (by simp) (by simp) (by simp))
                  have HT := Lib.hid hcut.t
                  have HS := Lib.hid (skip p _ _ i wc HB.out)
                  clear hcut HM2 b2 b3 b4 f2 f3 f4 s1
                  go_wp2_with fail
                  refine HS.out.mono ?_
                  rintro e w9 ⟨rfl, j, hj⟩
                  have HJ := Lib.hid hj
                  clear hj
                  go_wp2
                  go_ret
                  exact ⟨rfl, j, (⟨HB.out, HT.out, fun g hg => .inl hg⟩ : Lft w1 wc p _ _ _ i).trans HJ.out⟩
              · have s1 : IntKind.i64.wrap ((cnt 2 L : Int) + 1) = (cnt 2 L : Int) + 1 := IntWalk.i64_in _ (by omega)
                go_upto_region 9 with fail
                go_cut [] (fun wx => Mid w1 wx p (.slice (some ⟨g, 0, none⟩) len c) (L.set k (endX x 2 now)) ((cnt 0 L : Int) - 1) (cnt 1 L) ((cnt 2 L : Int) + 1) (cnt 3 L) i)
                case first =>
                  go_region
                  all_goals
                    go_wp2_with fail
                    go_meet
                    case rel => exact (HM2.out.s3 _).drew
                case rest =>
                  have HB := Lib.hid (hcut.bk HBK.out HX.out (HXF.out.trans HP.out) HF.out n0 n1 rfl (by simp) (by simp) (by simp))
                  have HT := Lib.hid hcut.t
                  have HS := Lib.hid (skip p _ _ i wc HB.out)
                  clear hcut HM2 b2 b3 b4 f2 f3 f4 s1
                  go_wp2_with fail
                  refine HS.out.mono ?_
                  rintro e w9 ⟨rfl, j, hj⟩
                  have HJ := Lib.hid hj
                  clear hj
                  go_wp2
                  go_ret
                  exact ⟨rfl, j, (⟨HB.out, HT.out, fun g hg => .inl hg⟩ : Lft w1 wc p _ _ _ i).trans HJ.out⟩
              · have s1 : IntKind.i64.wrap ((cnt 3 L : Int) + 1) = (cnt 3 L : Int) + 1 := IntWalk.i64_in _ (by omega)
                go_upto_region 9 with fail
                go_cut [] (fun wx => Mid w1 wx p (.slice (some ⟨g, 0, none⟩) len c) (L.set k (endX x 3 now)) ((cnt 0 L : Int) - 1) (cnt 1 L) (cnt 2 L) ((cnt 3 L : Int) + 1) i)
                case first =>
                  go_region
                  all_goals
                    go_wp2_with fail
                    go_meet
                    case rel => exact (HM2.out.s4 _).drew
                case rest =>
                  have HB := Lib.hid (hcut.bk HBK.out HX.out (HXF.out.trans HP.out) HF.out n0 n1 rfl (by simp) (by simp) (by simp))
                  have HT := Lib.hid hcut.t
                  have HS := Lib.hid (skip p _ _ i wc HB.out)
                  clear hcut HM2 b2 b3 b4 f2 f3 f4 s1
                  go_wp2_with fail
                  refine HS.out.mono ?_
                  rintro e w9 ⟨rfl, j, hj⟩
                  have HJ := Lib.hid hj
                  clear hj
                  go_wp2
                  go_ret
                  exact ⟨rfl, j, (⟨HB.out, HT.out, fun g hg => .inl hg⟩ : Lft w1 wc p _ _ _ i).trans HJ.out⟩
        · have HE := Lib.hid (end_twice (f := f) now hx hf h0)
          rw [HE.out.1, HE.out.2]
          have hb0 : (x.fate != 0) = true := by simp [h0]
          subst hv
          clear hb h h1 h2 hx h0 hf
          generalize x.fate = xf at *
          generalize hlL : L.length = len at *
          have HLL := Lib.hid hlL
          clear hlL
          have hknI : (k : Int) < (len : Int) := by omega
          go_enter Try.func9, Try.ntmps9
          go_wp2_with fail
          refine HH.out.mono ?_
          rintro e w1 ⟨rfl, rfl⟩
          go_wp2
          go_ret
          exact ⟨rfl, i, Lft.refl HBK.out⟩
end Go.Proofs.Ytnpaajmcahlloaa.led
