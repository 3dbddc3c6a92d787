/-
  The reference of layer 9: with.
-/
import Derived.Test.YtfgfejcnkjeghaaReoRef2
namespace Go.Proofs.Ytfgfejcnkjeghaa.reo
open Go.RowKit mem
set_option linter.unusedVariables false

def wS (x : Th) (s : List Th × Bool) (y : Th) : List Th × Bool := if s.2 = false ∧ x.at_ < y.at_ then (s.1 ++ [x] ++ [y], true) else (s.1 ++ [y], s.2)
def wK (x : Th) (l : List Th) (k : Nat) : List Th × Bool := (l.take k).foldl (wS x) ([], false)
theorem wK_succ (x : Th) (l : List Th) (k : Nat) (y : Th) (h : l[k]? = some y) : wK x l (k + 1) = wS x (wK x l k) y := by
  unfold wK
  rw [List.take_add_one, h, List.foldl_append]
  rfl
theorem wS_true (x : Th) : ∀ (l : List Th) (o : List Th), l.foldl (wS x) (o, true) = (o ++ l, true)
  | [], o => by simp
  | y :: l, o => by
    rw [List.foldl_cons, show wS x (o, true) y = (o ++ [y], true) from by unfold wS; rw [if_neg (by simp)], wS_true x l]
    simp
theorem wS_all (x : Th) : ∀ (l : List Th) (o : List Th), (if (l.foldl (wS x) (o, false)).2 then (l.foldl (wS x) (o, false)).1 else (l.foldl (wS x) (o, false)).1 ++ [x]) = o ++ insT l x
  | [], o => rfl
  | y :: l, o => by
    rw [List.foldl_cons, insT]
    by_cases h : x.at_ < y.at_
    · rw [show wS x (o, false) y = (o ++ [x] ++ [y], true) from by unfold wS; rw [if_pos ⟨rfl, h⟩], wS_true, if_pos rfl, if_pos h]
      simp
    · rw [show wS x (o, false) y = (o ++ [y], false) from by unfold wS; rw [if_neg (fun e => h e.2)], wS_all x l, if_neg h]
      simp
theorem wK_len (x : Th) (l : List Th) : ∀ k, (wK x l k).1.length ≤ 2 * k
  | 0 => by simp [wK]
  | k + 1 => by
    cases h : l[k]? with
    | none =>
      have e : wK x l (k + 1) = wK x l k := by unfold wK; rw [List.take_add_one, h]; simp
      rw [e]
      have := wK_len x l k
      omega
    | some y =>
      rw [wK_succ x l k y h]
      have := wK_len x l k
      unfold wS
      split
      · simp only [List.length_append, List.length_singleton]; omega
      · simp only [List.length_append, List.length_singleton]; omega
theorem wK_end (x : Th) (l : List Th) : (if (wK x l l.length).2 then (wK x l l.length).1 else (wK x l l.length).1 ++ [x]) = insT l x := by
  have := wS_all x l []
  unfold wK
  rw [List.take_length]
  simpa using this

structure K2 (w W : World) (u : Value) (L : List Th) (p1 pp : Nat) (cs ds : Array Value) : Prop where
  g : Gr TE RT w W u L
  b : Blk W p1 cs RT
  q : Blk W pp ds RT
  h1 : ∀ g, u.ownBlock = some g → g ≠ p1
  h2 : ∀ g, u.ownBlock = some g → g ≠ pp
theorem K2.push {w W W2 : World} {u u2 : Value} {L l : List Th} {p1 pp : Nat} {cs ds : Array Value} {o : Obj} (h : K2 w W u L p1 pp cs ds) (ho : Owns TE RT W2 u2 (L ++ l)) (hgr : (W.alloc o).grownBy W2 u.ownBlock) (ha : u2.ownBlock = u.ownBlock ∨ u2.ownBlock = some (W.alloc o).heap.size) : K2 w W2 u2 (L ++ l) p1 pp cs ds := by
  have t1 := Gr.turned hgr
  have hW : W.heap.size ≤ (W.alloc o).heap.size := by simp
  refine ⟨h.g.push ho hgr ha, t1.blk h.b (fun e => h.h1 p1 e.symm rfl), t1.blk h.q (fun e => h.h2 pp e.symm rfl), fun g hg => ?_, fun g hg => ?_⟩
  · rcases ha with e | e
    · exact h.h1 g (by rw [← e]; exact hg)
    · rw [e] at hg; injection hg with hg; have := h.b.lt; omega
  · rcases ha with e | e
    · exact h.h2 g (by rw [← e]; exact hg)
    · rw [e] at hg; injection hg with hg; have := h.q.lt; omega

set_option maxRecDepth 10000 in
set_option maxHeartbeats 4000000 in
theorem rwith (v : Value) (l : List Th) (x : Th) (w : World) (h : RS w v l) (hl : l.length ≤ 1025) :
    Calls Try.prog 30 #[v, .agg #[.int .i64 x.at_, .string x.tx, .int .i64 x.tick]] w fun e w' => ∃ u, e = .returned u ∧ Gr TE RT w w' u (insT l x) := by
  have HS := Lib.hid h
  obtain ⟨ao, n, c, hv, hn, hnc, hcm⟩ := h.form
  have HEND := Lib.hid (wK_end x l)
  rw [← hn] at HEND
  have HLN := Lib.hid hn
  have hl' : n ≤ 1025 := by omega
  have hb0 : Blk ((w.alloc (.cells #[.int .i64 x.at_, .string x.tx, .int .i64 x.tick] RT)).alloc (.cells #[] RT)) w.heap.size #[.int .i64 x.at_, .string x.tx, .int .i64 x.tick] RT := (Blk.new _ _ _).alloc _
  have hg0 : Gr TE RT w ((w.alloc (.cells #[.int .i64 x.at_, .string x.tx, .int .i64 x.tick] RT)).alloc (.cells #[] RT)) (.slice (some ⟨w.heap.size + 1, 0, none⟩) 0 0) (wK x l 0).1 := ⟨made0R (Blk.new' _ _ _ _ (by simp)), fun g hg => by
    have e : w.heap.size + 1 = g := by simpa [Value.ownBlock] using hg
    omega, ((Turns.refl _ _).alloc _).alloc _⟩
  have HPV : Hid (∀ (g : Nat), (Value.slice (some ⟨w.heap.size + 1, 0, none⟩) 0 0).ownBlock = some g → g ≠ w.heap.size) := Lib.hid (fun g hg => by
    have e : w.heap.size + 1 = g := by simpa [Value.ownBlock] using hg
    omega)
  have HB0 := Lib.hid hb0
  have HG0 := Lib.hid hg0
  have HD0 : Hid ((wK x l 0).2 = false) := Lib.hid rfl
  clear h hn hl hb0 hg0 hnc hcm
  subst hv
  obtain ⟨xa, xt, xk⟩ := x
  dsimp only at HB0 HG0 ⊢
  go_enter Try.func30, Try.ntmps30
  go_upto_region 3 with fail
  refine (show Code.wp _ _ _ _ ((w.alloc (.cells #[.int .i64 xa, .string xt, .int .i64 xk] RT)).alloc (.cells #[] RT)) from ?_)
  generalize (w.alloc (.cells #[.int .i64 xa, .string xt, .int .i64 xk] RT)).alloc (.cells #[] RT) = w3 at *
  generalize w.heap.size + 1 = ob at *
  have HPW : Hid (w.heap.size ≤ w.heap.size) := Lib.hid (Nat.le_refl _)
  generalize hp1 : w.heap.size = p1 at *
  have HPE := Lib.hid hp1
  clear hp1
  go_wp2_with fail
  go_loopw [5, 6, 12] (fun u d i wr => ∃ k : Nat, k ≤ n ∧ i = .int .i64 k ∧ d = .bool (wK ⟨xa, xt, xk⟩ l k).2 ∧ Gr TE RT w wr u (wK ⟨xa, xt, xk⟩ l k).1 ∧ Blk wr p1 #[.int .i64 xa, .string xt, .int .i64 xk] RT ∧ (∀ g, u.ownBlock = some g → g ≠ p1)) (fun _ _ i _ => n - (intOf i).toNat)
  case atStart => exact ⟨0, by omega, rfl, rfl, HG0.out, HB0.out, HPV.out⟩
  case round =>
    obtain ⟨k, hk, rfl, rfl, hg, hb, hpv⟩ := hrel
    have HG := Lib.hid hg
    have HB := Lib.hid hb
    have HV := Lib.hid hpv
    have k0 := hb.cell 0
    have k1 := hb.cell 1
    have k2 := hb.cell 2
    change wr.cell? ⟨p1, 0, none⟩ = some (.int .i64 xa) at k0
    change wr.cell? ⟨p1, 1, none⟩ = some (.string xt) at k1
    change wr.cell? ⟨p1, 2, none⟩ = some (.int .i64 xk) at k2
    have hpl := hb.lt
    have hwl := wK_len ⟨xa, xt, xk⟩ l k
    clear HG0 HB0 HPV HD0 hb hpv
    by_cases hlt : k < n
    · obtain ⟨y, hy⟩ : ∃ y, l[k]? = some y := ⟨_, List.getElem?_eq_getElem (by have := HLN.out; omega)⟩
      have HSU := Lib.hid (wK_succ ⟨xa, xt, xk⟩ l k y hy)
      have hs := (HS.out.later hg.n).sub
      rcases hs with ⟨_, h0⟩ | hs
      · rw [h0] at hy; simp at hy
      obtain ⟨g, o, c', hv, _, _, _, hgl, hcell⟩ := hs.cell
      injection hv with e1 e2 e3
      subst e1 e3
      clear e2
      have z0 := hcell k y hy 0 _ rfl
      have z1 := hcell k y hy 1 _ rfl
      have z2 := hcell k y hy 2 _ rfl
      obtain ⟨ya, yt, yk⟩ := y
      change wr.cell? ⟨g, o + k * 3, none⟩ = some (.int .i64 ya) at z0
      change wr.cell? ⟨g, o + k * 3 + 1, none⟩ = some (.string yt) at z1
      change wr.cell? ⟨g, o + k * 3 + 2, none⟩ = some (.int .i64 yk) at z2
      have hltI : (k : Int) < (n : Int) := by omega
      have dlt : decide ((k : Int) < (n : Int)) = true := decide_eq_true hltI
      have BP : Hid (Blk (wr.alloc (.cells #[.int .i64 ya, .string yt, .int .i64 yk] RT)) wr.heap.size #[.int .i64 ya, .string yt, .int .i64 yk] RT) := Lib.hid (Blk.new _ _ _)
      have HG2 : Hid (Gr TE RT w (wr.alloc (.cells #[.int .i64 ya, .string yt, .int .i64 yk] RT)) u5 (wK ⟨xa, xt, xk⟩ l k).1) := Lib.hid (HG.out.later ((Turns.refl _ _).alloc _))
      have HB2 : Hid (Blk (wr.alloc (.cells #[.int .i64 ya, .string yt, .int .i64 yk] RT)) p1 #[.int .i64 xa, .string xt, .int .i64 xk] RT) := Lib.hid (HB.out.alloc _)
      have HQ : Hid (∀ g, u5.ownBlock = some g → g ≠ wr.heap.size) := Lib.hid (fun g hg' => by have := HG.out.own.lt g hg'; omega)
      clear hcell hy hg
      generalize hdd : (wK ⟨xa, xt, xk⟩ l k).2 = dd at *
      generalize hoo : (wK ⟨xa, xt, xk⟩ l k).1 = oo at *
      have HWK : Hid (wK ⟨xa, xt, xk⟩ l k = (oo, dd)) := Lib.hid (by rw [← hdd, ← hoo])
      rw [HWK.out] at HSU
      clear hdd hoo
      go_upto_region 6 with fail
      refine (show Code.wp _ _ _ _ (wr.alloc (.cells #[.int .i64 ya, .string yt, .int .i64 yk] RT)) from ?_)
      have hpp : p1 ≠ wr.heap.size := by omega
      generalize wr.alloc (.cells #[.int .i64 ya, .string yt, .int .i64 yk] RT) = w4 at *
      generalize wr.heap.size = pp at *
      obtain ⟨c0, c1, c2⟩ : w4.cell? ⟨p1, 0, none⟩ = some (.int .i64 xa) ∧ w4.cell? ⟨p1, 1, none⟩ = some (.string xt) ∧ w4.cell? ⟨p1, 2, none⟩ = some (.int .i64 xk) := ⟨HB2.out.cell 0, HB2.out.cell 1, HB2.out.cell 2⟩
      obtain ⟨b0, b1, b2⟩ : w4.cell? ⟨pp, 0, none⟩ = some (.int .i64 ya) ∧ w4.cell? ⟨pp, 1, none⟩ = some (.string yt) ∧ w4.cell? ⟨pp, 2, none⟩ = some (.int .i64 yk) := ⟨BP.out.cell 0, BP.out.cell 1, BP.out.cell 2⟩
      have K4 : Hid (K2 w w4 u5 oo p1 pp #[.int .i64 xa, .string xt, .int .i64 xk] #[.int .i64 ya, .string yt, .int .i64 yk]) := Lib.hid ⟨HG2.out, HB2.out, BP.out, HV.out, HQ.out⟩
      clear z0 z1 z2 k0 k1 k2 hgl hpl HG HB HG2 HB2 BP HV HQ
      by_cases hbr : dd = false ∧ xa < ya
      · obtain ⟨rfl, hxy⟩ := hbr
        have dxy : decide (xa < ya) = true := decide_eq_true hxy
        have HST : Hid (wS ⟨xa, xt, xk⟩ (oo, false) ⟨ya, yt, yk⟩ = (oo ++ [⟨xa, xt, xk⟩] ++ [⟨ya, yt, yk⟩], true)) := Lib.hid (by unfold wS; rw [if_pos ⟨rfl, hxy⟩])
        clear hxy
        go_wp2_with (at_builtin; refine wpList_append_one (E := TE) Try.underlying24 infoR rfl (by decide) (by decide) rfl _ _ rfl _ oo (⟨xa, xt, xk⟩ : Th) rfl (K4.out.g.own.turns (S := fun _ => False) ((Turns.refl _ _).alloc _) (fun _ _ h => h)) _ rfl (heap_alloc_new _ _) (by first | omega | (simp only [List.length_append, List.length_singleton]; omega)) ?_)
        intro u6 w6 hown6 hgrow6 hat6
        have K6 := Lib.hid (K4.out.push hown6 hgrow6 (by simpa using hat6))
        have b0' : w6.cell? ⟨pp, 0, none⟩ = some (.int .i64 ya) := K6.out.q.cell 0
        have b1' : w6.cell? ⟨pp, 1, none⟩ = some (.string yt) := K6.out.q.cell 1
        have b2' : w6.cell? ⟨pp, 2, none⟩ = some (.int .i64 yk) := K6.out.q.cell 2
        clear hown6 hgrow6 hat6 c0 c1 c2 b0 b1 b2
        go_wp2_with (at_builtin; refine wpList_append_one (E := TE) Try.underlying24 infoR rfl (by decide) (by decide) rfl _ _ rfl _ (oo ++ [⟨xa, xt, xk⟩]) (⟨ya, yt, yk⟩ : Th) rfl (K6.out.g.own.turns (S := fun _ => False) ((Turns.refl _ _).alloc _) (fun _ _ h => h)) _ rfl (heap_alloc_new _ _) (by first | omega | (simp only [List.length_append, List.length_singleton]; omega)) ?_)
        intro u8 w8 hown8 hgrow8 hat8
        have K8 := Lib.hid (K6.out.push (l := [(⟨ya, yt, yk⟩ : Th)]) (by simpa using hown8) hgrow8 (by simpa using hat8))
        clear hown8 hgrow8 hat8
        go_wp2_with fail
        go_roundw
        case rel => exact ⟨k + 1, by omega, by go_num, by rw [HSU.out, HST.out], by rw [HSU.out, HST.out]; exact K8.out.g, K8.out.b, K8.out.h1⟩
        case measure => simp [intOf]; omega
      · have HST : Hid (wS ⟨xa, xt, xk⟩ (oo, dd) ⟨ya, yt, yk⟩ = (oo ++ [⟨ya, yt, yk⟩], dd)) := Lib.hid (by unfold wS; rw [if_neg hbr])
        have hcs : dd = true ∨ (dd = false ∧ decide (xa < ya) = false) := by
          cases dd
          · exact .inr ⟨rfl, decide_eq_false (fun e => hbr ⟨rfl, e⟩)⟩
          · exact .inl rfl
        clear hbr
        rcases hcs with rfl | ⟨rfl, dxy⟩
        all_goals
          go_wp2_with (at_builtin; refine wpList_append_one (E := TE) Try.underlying24 infoR rfl (by decide) (by decide) rfl _ _ rfl _ oo (⟨ya, yt, yk⟩ : Th) rfl (K4.out.g.own.turns (S := fun _ => False) ((Turns.refl _ _).alloc _) (fun _ _ h => h)) _ rfl (heap_alloc_new _ _) (by first | omega | (simp only [List.length_append, List.length_singleton]; omega)) ?_)
          intro u6 w6 hown6 hgrow6 hat6
          have K6 := Lib.hid (K4.out.push hown6 hgrow6 (by simpa using hat6))
          clear hown6 hgrow6 hat6 c0 c1 c2 b0 b1 b2
          go_wp2_with fail
          go_roundw
          case rel => exact ⟨k + 1, by omega, by go_num, by rw [HSU.out, HST.out], by rw [HSU.out, HST.out]; exact K6.out.g, K6.out.b, K6.out.h1⟩
          case measure => simp [intOf]; omega
    · obtain rfl : k = n := by omega
      have dlt : decide ((k : Int) < (k : Int)) = false := decide_eq_false (by omega)
      clear hlt hg
      generalize hdd : (wK ⟨xa, xt, xk⟩ l k).2 = dd at *
      generalize hoo : (wK ⟨xa, xt, xk⟩ l k).1 = oo at *
      clear hdd hoo
      cases dd
      · have HE : Hid (oo ++ [⟨xa, xt, xk⟩] = insT l ⟨xa, xt, xk⟩) := Lib.hid (by have := HEND.out; rw [if_neg (by decide)] at this; exact this)
        have K4 : Hid (K2 w wr u5 oo p1 p1 #[.int .i64 xa, .string xt, .int .i64 xk] #[.int .i64 xa, .string xt, .int .i64 xk]) := Lib.hid ⟨HG.out, HB.out, HB.out, HV.out, HV.out⟩
        go_wp2_with (at_builtin; refine wpList_append_one (E := TE) Try.underlying24 infoR rfl (by decide) (by decide) rfl _ _ rfl _ oo (⟨xa, xt, xk⟩ : Th) rfl (K4.out.g.own.turns (S := fun _ => False) ((Turns.refl _ _).alloc _) (fun _ _ h => h)) _ rfl (heap_alloc_new _ _) (by first | omega | (simp only [List.length_append, List.length_singleton]; omega)) ?_)
        intro u6 w6 hown6 hgrow6 hat6
        have K6 := Lib.hid (K4.out.push hown6 hgrow6 (by simpa using hat6))
        rw [HE.out] at K6
        clear hown6 hgrow6 hat6 k0 k1 k2
        go_wp2
        go_ret
        exact ⟨_, rfl, K6.out.g⟩
      · have HE : Hid (oo = insT l ⟨xa, xt, xk⟩) := Lib.hid (by have := HEND.out; rw [if_pos rfl] at this; exact this)
        go_wp2
        go_ret
        exact ⟨_, rfl, by rw [← HE.out]; exact HG.out⟩
end Go.Proofs.Ytfgfejcnkjeghaa.reo
