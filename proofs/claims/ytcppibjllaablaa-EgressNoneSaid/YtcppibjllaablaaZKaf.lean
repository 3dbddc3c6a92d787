/-
  Parts of the proof, one behind the other.
-/
import Derived.Test.YtcppibjllaablaaZEgrR19h
import Derived.Test.YtcppibjllaablaaZKad
import Derived.Test.YtcppibjllaablaaZQueRexp
import Derived.Test.YtcppibjllaablaaZQueRput
import Derived.Test.YtcppibjllaablaaZKaa
import Derived.BigQuiet
import Derived.Test.YtcppibjllaablaaZKae
set_option linter.unusedVariables false
set_option linter.unusedSimpArgs false
/-
  The reference of layer 20: its outlet in memory; Find, All.
-/
namespace Go.Proofs.Ytcppibjllaablaa.egr
open Go.RowKit mem
open Go.Proofs.Ytcppibjllaablaa.drr (plc plc_at plc_no plc_cases before_succ before_all)
set_option linter.unusedVariables false

abbrev FT : TypeId := 82
abbrev RT20 : TypeId := 65
abbrev RSeT : TypeId := 84
/-- a flow of the reference: its items lie at ao -/
structure Rf where
  id : Int
  video : Bool
  q : que.Q
  ao : Option Addr
  c : Nat
def Rf.cs (f : Rf) : List Value := [.int .i64 f.id, .bool f.video, .int .i64 f.q.frames, .int .i64 f.q.most, .slice f.ao f.q.L.length f.c, .bool f.q.broken]
def FE : Enc Rf := ⟨6, Rf.cs, fun _ => rfl, fun x u hu => by
  simp [Rf.cs] at hu
  rcases hu with rfl | rfl | rfl | rfl | rfl | rfl <;> rfl⟩
theorem infoF : (Try.prog.info? FT).map (fun i => (i.zero, i.size, i.bytes)) = some (some (.agg #[.int .i64 0, .bool false, .int .i64 0, .int .i64 0, .slice none 0 0, .bool false]), 6, 64) := by kernel_rfl
theorem infoRs : (Try.prog.info? RSeT).map (fun i => (i.zero, i.size, i.bytes)) = some (some (.agg #[.int .i64 0, .int .i64 0, .int .i64 0, .int .i64 0, .bool false]), 5, 40) := by kernel_rfl
def toE (f : Rf) : Ef := ⟨f.id, 0, f.video, 0, .slice none 0 0, f.q⟩
abbrev rO (r : Eo) (vL vS : Value) : Array Value := #[.int .i64 r.frames, .int .i64 r.bytes, .int .i64 r.age, .int .i64 r.most, .int .i64 r.guard, vL, .int .i64 r.s.most, vS, .int .i64 r.s.turn, .bool r.s.g, .int .i64 r.credit, .int .i64 r.row]
/-- the reference's outlet: its flows L, by rising numbers -/
structure RO (w : World) (vL vS : Value) (L : List Rf) (r : Eo) : Prop where
  l : TS FE FT w vL L
  q : ∀ f ∈ L, TS que.IE que.OT w (.slice f.ao f.q.L.length f.c) f.q.L
  s : TS drr.GE drr.GT w vS r.s.L
  e : r.L = L.map toE
  b : ∀ f ∈ r.s.L, f.b < w.heap.size
theorem RO.later {w w' : World} {vL vS : Value} {L : List Rf} {r : Eo} (h : RO w vL vS L r) (n : New w w') : RO w' vL vS L r :=
  ⟨h.l.later n, fun f hf => (h.q f hf).later n, h.s.later n, h.e, fun f hf => Nat.lt_of_lt_of_le (h.b f hf) n.size⟩
theorem rf_at {w : World} {ao : Option Addr} {n c : Nat} {l : List Rf} (h : TS FE FT w (.slice ao n c) l) {k : Nat} {x : Rf} (hx : l[k]? = some x) : ∃ g o, ao = some ⟨g, o, none⟩ ∧ g < w.heap.size ∧ w.cell? ⟨g, o + k * 6, none⟩ = some (.int .i64 x.id) ∧ w.cell? ⟨g, o + k * 6 + 1, none⟩ = some (.bool x.video) ∧ w.cell? ⟨g, o + k * 6 + 2, none⟩ = some (.int .i64 x.q.frames) ∧ w.cell? ⟨g, o + k * 6 + 3, none⟩ = some (.int .i64 x.q.most) ∧ w.cell? ⟨g, o + k * 6 + 4, none⟩ = some (.slice x.ao x.q.L.length x.c) ∧ w.cell? ⟨g, o + k * 6 + 5, none⟩ = some (.bool x.q.broken) := by
  obtain ⟨g, o, e, _, hg, h1⟩ := h.at_ hx
  exact ⟨g, o, e, hg, h1 0 _ rfl, h1 1 _ rfl, h1 2 _ rfl, h1 3 _ rfl, h1 4 _ rfl, h1 5 _ rfl⟩

set_option maxRecDepth 10000 in
set_option maxHeartbeats 2000000 in
theorem rfind20 (vL vS : Value) (L : List Rf) (r : Eo) (id : Int) (w : World) (h : TS FE FT w vL L) (hl : L.length ≤ 1048576) :
    Calls Try.prog 71 #[.agg (rO r vL vS), .int .i64 id] w fun e w' => e = .returned (.int .i64 (plc L (fun f => f.id == id))) ∧ New w w' := by
  have HS := Lib.hid h
  obtain ⟨ao, n, c, hv, hn, _, _⟩ := h.form
  have HN := Lib.hid hn
  have hn2 : n ≤ 1048576 := by omega
  clear h hn hl
  subst hv
  have H0 : Hid (New w (w.alloc (.cells (rO r (.slice ao n c) vS) RT20))) := Lib.hid ((Turns.refl _ _).alloc _)
  go_enter Try.func71, Try.ntmps71
  go_wp2_with fail
  go_loopw [10] (fun i wr => ∃ k : Nat, k ≤ n ∧ i = .int .i64 k ∧ New w wr ∧ ∀ (j : Nat) (g : Rf), j < k → L[j]? = some g → (g.id == id) = false) (fun i _ => n - (intOf i).toNat)
  case atStart => exact ⟨0, Nat.zero_le _, rfl, H0.out, fun j g hj => absurd hj (Nat.not_lt_zero _)⟩
  case round =>
    obtain ⟨k, hk, rfl, hnw, hbf⟩ := hrel
    have HNW := Lib.hid hnw
    have HBF := Lib.hid hbf
    clear hnw hbf H0
    by_cases hlt : k < n
    · obtain ⟨x, hx⟩ : ∃ x, L[k]? = some x := ⟨_, List.getElem?_eq_getElem (by have := HN.out; omega)⟩
      have HX := Lib.hid hx
      obtain ⟨g, o, hg, hgl, z0, z1, z2, z3, z4, z5⟩ := rf_at (HS.out.later HNW.out) hx
      subst hg
      have d1 : decide ((k : Int) < (n : Int)) = true := decide_eq_true (by omega)
      have j1 : (k : Int) < (n : Int) := by omega
      have hw : IntKind.i64.wrap ((k : Int) + 1) = (k : Int) + 1 := IntWalk.i64_in _ (by omega)
      have HN2 : Hid (New w (wr.alloc (.cells #[.int .i64 x.id, .bool x.video, .int .i64 x.q.frames, .int .i64 x.q.most, .slice x.ao x.q.L.length x.c, .bool x.q.broken] FT))) := Lib.hid (HNW.out.alloc _)
      clear hx
      cases he : (x.id == id) with
      | true =>
        have HE1 := Lib.hid he
        go_wp2
        go_ret
        exact ⟨by rw [plc_at HX.out HE1.out HBF.out]; rfl, HN2.out⟩
      | false =>
        have HE1 := Lib.hid he
        go_wp2_with fail
        go_roundw
        case rel => exact ⟨k + 1, by omega, by push_cast; go_num, HN2.out, before_succ HX.out HE1.out HBF.out⟩
        case measure => simp [intOf]; omega
    · have d1 : decide ((k : Int) < (n : Int)) = false := decide_eq_false (by omega)
      have d2 : decide (k < n) = false := decide_eq_false hlt
      have HP : Hid (plc L (fun f => f.id == id) = -1) := Lib.hid (before_all (by have := HN.out; omega) HBF.out)
      go_wp2
      go_ret
      exact ⟨by rw [HP.out]; rfl, HNW.out⟩

theorem one5 {W : World} {B : Nat} {x : Snt} {a b c d e : Value} (hx : SE.cs x = [a, b, c, d, e]) (h : Blk W B #[a, b, c, d, e] RSeT) : Sub SE 0 W (.slice (some ⟨B, 0, none⟩) 1 1) [x] := by
  refine .inr ⟨B, 0, 1, rfl, Nat.le_refl _, by decide, Nat.zero_le _, h.lt, fun j u hu => ?_⟩
  rw [SE.all_one, hx] at hu
  rw [Nat.zero_add, h.cell j]
  exact (by simp : (#[a, b, c, d, e])[j]? = [a, b, c, d, e][j]?).trans hu
set_option maxRecDepth 100000 in
set_option maxHeartbeats 2000000 in
theorem rall (id : Int) (v : Value) (l : List que.It) (w : World) (h : Sub que.IE 0 w v l) (hl : l.length ≤ 1000000) :
    Calls Try.prog 73 #[.int .i64 id, v] w fun e w' => ∃ u, e = .returned u ∧ Gr SE RSeT w w' u (nam id l) := by
  obtain ⟨ao, c, hv, hc, hcm⟩ := h.form
  have HS := Lib.hid h
  subst hv
  have HLN : Hid (l.length ≤ 1000000) := Lib.hid hl
  obtain ⟨n, hn⟩ : ∃ n, n = l.length := ⟨_, rfl⟩
  have HN := Lib.hid hn
  rw [← hn] at hc HS ⊢
  have hn2 : n ≤ 1000000 := by omega
  clear h hn hl
  have HG0 : Hid (Gr SE RSeT w (w.alloc (.cells #[] RSeT)) (.slice (some ⟨w.heap.size, 0, none⟩) 0 0) (nam id (l.take 0))) := Lib.hid ⟨drr.made0G SE (Blk.new _ _ _), fun g hg => by
    have : w.heap.size = g := by simpa [Value.ownBlock] using hg
    omega, (Turns.refl _ _).alloc _⟩
  go_enter Try.func73, Try.ntmps73
  go_wp2_with fail
  go_loopw [5, 11] (fun o i wr => ∃ (k : Nat) (a3 : Option Addr) (n3 c3 : Nat), k ≤ n ∧ i = .int .i64 k ∧ o = .slice a3 n3 c3 ∧ Gr SE RSeT w wr (.slice a3 n3 c3) (nam id (l.take k))) (fun _ i _ => n - (intOf i).toNat)
  case atStart => exact ⟨0, _, _, _, Nat.zero_le _, rfl, rfl, HG0.out⟩
  case round =>
    obtain ⟨k, a3, n3, c3, hk, rfl, rfl, hg⟩ := hrel
    have HG := Lib.hid hg
    clear hg HG0
    by_cases hlt : k < n
    · obtain ⟨x, hx⟩ : ∃ x, l[k]? = some x := ⟨_, List.getElem?_eq_getElem (by have := HN.out; omega)⟩
      have HS2 : Hid (Sub que.IE 0 wr (.slice ao n c) l) := Lib.hid (que.Sub.new HS.out HG.out.n)
      obtain ⟨g, o, c', hv, hg, z0, z1, z2, z3⟩ := que.Sub.at' HS2.out hx
      injection hv with hv1 hv2 hv3
      clear hv2
      subst hv1 hv3
      have d1 : decide ((k : Int) < (n : Int)) = true := decide_eq_true (by omega)
      have j1 : (k : Int) < (n : Int) := by omega
      have hw : IntKind.i64.wrap ((k : Int) + 1) = (k : Int) + 1 := IntWalk.i64_in _ (by omega)
      have HTK : Hid (nam id (l.take (k + 1)) = nam id (l.take k) ++ [⟨id, x⟩]) := Lib.hid (by rw [List.take_add_one, hx]; simp [nam])
      have HLE : Hid ((nam id (l.take k)).length + 1 ≤ 1048576) := Lib.hid (by unfold nam; rw [List.length_map, List.length_take]; omega)
      clear hx
      obtain ⟨xn, xs, xt, xk⟩ := x
      dsimp only at *
      have HG4 := Lib.hid (HG.out.later ((Turns.refl _ wr).alloc (.cells #[.int .i64 xn, .int .i64 xs, .int .i64 xt, .bool xk] que.OT)))
      have HBX : Hid (Blk (wr.alloc (.cells #[.int .i64 xn, .int .i64 xs, .int .i64 xt, .bool xk] que.OT)) wr.heap.size #[.int .i64 xn, .int .i64 xs, .int .i64 xt, .bool xk] que.OT) := Lib.hid (Blk.new _ _ _)
      go_upto_region 5 with fail
      refine (show Code.wp _ _ _ _ (wr.alloc (.cells #[.int .i64 xn, .int .i64 xs, .int .i64 xt, .bool xk] que.OT)) from ?_)
      clear z0 z1 z2 z3 hg
      generalize wr.alloc (.cells #[.int .i64 xn, .int .i64 xs, .int .i64 xt, .bool xk] que.OT) = w4 at *
      generalize wr.heap.size = px at *
      obtain ⟨⟨y0, y1, y2, y3⟩, _⟩ := que.four HBX.out
      have HGW := HG4.out.own.turns (S := fun _ => False) ((Turns.refl _ _).alloc (.cells #[.int .i64 id, .int .i64 xn, .int .i64 xs, .int .i64 xt, .bool xk] RSeT)) (fun _ _ h => h)
      go_wp2_with (at_builtin; refine wpList_append_sub (E := SE) Try.underlying73 infoRs rfl (by decide) (by decide) rfl _ _ rfl _ (nam id (l.take k)) [⟨id, ⟨xn, xs, xt, xk⟩⟩] rfl HGW _ rfl 0 (one5 rfl (Blk.new _ _ _)) HLE.out ?_)
      intro v6 w6 hown hgrow hat
      have hg6 := Gr.push HG4.out hown hgrow (by rw [World.size_alloc]; exact hat)
      rw [← HTK.out] at hg6
      have HG6 := Lib.hid hg6
      obtain ⟨a6, c6, hv6, _⟩ := hg6.own.form
      generalize (nam id (l.take (k + 1))).length = n6 at hv6
      subst hv6
      clear hown hgrow hat HGW y0 y1 y2 y3 hg6
      go_wp2_with fail
      go_roundw
      case rel => exact ⟨k + 1, a6, n6, c6, by omega, by push_cast; go_num, rfl, HG6.out⟩
      case measure => simp [intOf, hw]; omega
    · have d1 : decide ((k : Int) < (n : Int)) = false := decide_eq_false (by omega)
      have d2 : decide (k < n) = false := decide_eq_false hlt
      have HTK : Hid (l.take k = l) := Lib.hid (List.take_of_length_le (by have := HN.out; omega))
      rw [HTK.out] at HG
      go_wp2
      go_ret
      exact ⟨_, rfl, HG.out⟩
end Go.Proofs.Ytcppibjllaablaa.egr

/-
  'Same' of layer 20's laws.
-/
namespace Go.Proofs.Ytcppibjllaablaa.egr
open Go.RowKit mem
set_option linter.unusedVariables false

theorem subN {α : Type} {E : Enc α} {B : Nat} {w w' : World} {v : Value} {l : List α} (h : Sub E B w v l) (n : New w w') : Sub E B w' v l := Sub.turns' h n (fun _ _ h => h)
theorem snt_at {w : World} {ao : Option Addr} {n c : Nat} {l : List Snt} (h : Sub SE 0 w (.slice ao n c) l) {k : Nat} {x : Snt} (hx : l[k]? = some x) : ∃ g o, ao = some ⟨g, o, none⟩ ∧ g < w.heap.size ∧ w.cell? ⟨g, o + k * 5, none⟩ = some (.int .i64 x.id) ∧ w.cell? ⟨g, o + k * 5 + 1, none⟩ = some (.int .i64 x.x.n) ∧ w.cell? ⟨g, o + k * 5 + 2, none⟩ = some (.int .i64 x.x.size) ∧ w.cell? ⟨g, o + k * 5 + 3, none⟩ = some (.int .i64 x.x.tick) ∧ w.cell? ⟨g, o + k * 5 + 4, none⟩ = some (.bool x.x.key) := by
  rcases h with ⟨_, h0⟩ | hl
  · rw [h0] at hx; simp at hx
  · obtain ⟨g, o, c', hv, _, _, _, h4, h5⟩ := hl.cell
    injection hv with e1 e2 e3
    exact ⟨g, o, e1, h4, h5 k x hx 0 _ rfl, h5 k x hx 1 _ rfl, h5 k x hx 2 _ rfl, h5 k x hx 3 _ rfl, h5 k x hx 4 _ rfl⟩
set_option maxRecDepth 100000 in
set_option maxHeartbeats 2000000 in
theorem same (v1 v2 : Value) (l : List Snt) (w : World) (h1 : Sub SE 0 w v1 l) (h2 : Sub SE 0 w v2 l) (hl : l.length ≤ 1000000) :
    Calls Try.prog 55 #[v1, v2] w fun e w' => e = .returned (.int .i64 0) ∧ New w w' := by
  obtain ⟨a1, c1, hv1, hc1, _⟩ := h1.form
  obtain ⟨a2, c2, hv2, hc2, _⟩ := h2.form
  have HF1 := Lib.hid h1
  have HF2 := Lib.hid h2
  subst hv1 hv2
  clear h1 h2
  have hlm : l.length ≤ maxLen := by unfold maxLen; omega
  go_enter Try.func55, Try.ntmps55
  go_wp2_with fail
  go_loopw [13] (fun i wr => ∃ k : Nat, k ≤ l.length ∧ i = .int .i64 k ∧ New w wr) (fun i _ => l.length - (intOf i).toNat)
  case atStart => exact ⟨0, Nat.zero_le _, rfl, Turns.refl _ _⟩
  case round =>
    obtain ⟨k, hk, rfl, hnw⟩ := hrel
    by_cases hlt : k < l.length
    · obtain ⟨x, hx⟩ : ∃ x, l[k]? = some x := ⟨_, List.getElem?_eq_getElem hlt⟩
      obtain ⟨g1, o1, hv1, hg1, d0, d1, d2, d3, d4⟩ := snt_at (subN HF1.out hnw) hx
      obtain ⟨g2, o2, hv2, hg2, e0, e1, e2, e3, e4⟩ := snt_at (subN HF2.out hnw) hx
      subst hv1 hv2
      have b1 : (k : Int) < (l.length : Int) := by omega
      have b2 : (0 : Int) ≤ (k : Int) := by omega
      have b3 : decide ((k : Int) < (l.length : Int)) = true := decide_eq_true b1
      clear hx
      obtain ⟨xi, xn, xs, xt, xk⟩ := x
      dsimp only at *
      have HN := Lib.hid hnw
      clear hnw
      go_wp2_with fail
      go_quiet (fail)
      all_goals
        go_wp2_with fail
        go_roundw
        case rel => exact ⟨k + 1, by omega, by go_num, by first | exact HN.out | exact HN.out.drew | exact HN.out.drewN _⟩
        case measure => simp [intOf]; omega
    · obtain rfl : k = l.length := by omega
      go_wp2
      go_ret
      exact ⟨rfl, hnw⟩
end Go.Proofs.Ytcppibjllaablaa.egr

/-
  The reference of layer 20: set.
-/
namespace Go.Proofs.Ytcppibjllaablaa.egr
open Go.RowKit mem
open Go.Proofs.Ytcppibjllaablaa.drr (made0G madeG own_free)
set_option linter.unusedVariables false

theorem twelve {w : World} {p : Nat} {a b c d e f g h i j k l : Value} {T : TypeId} (hb : Blk w p #[a, b, c, d, e, f, g, h, i, j, k, l] T) :
    (w.cell? ⟨p, 0, none⟩ = some a ∧ w.cell? ⟨p, 1, none⟩ = some b ∧ w.cell? ⟨p, 2, none⟩ = some c ∧ w.cell? ⟨p, 3, none⟩ = some d ∧ w.cell? ⟨p, 4, none⟩ = some e ∧ w.cell? ⟨p, 5, none⟩ = some f ∧ w.cell? ⟨p, 6, none⟩ = some g ∧ w.cell? ⟨p, 7, none⟩ = some h ∧ w.cell? ⟨p, 8, none⟩ = some i ∧ w.cell? ⟨p, 9, none⟩ = some j ∧ w.cell? ⟨p, 10, none⟩ = some k ∧ w.cell? ⟨p, 11, none⟩ = some l)
    ∧ w.frozen? ⟨p, 0, none⟩ = false ∧ w.frozen? ⟨p, 1, none⟩ = false ∧ w.frozen? ⟨p, 2, none⟩ = false ∧ w.frozen? ⟨p, 3, none⟩ = false ∧ w.frozen? ⟨p, 4, none⟩ = false ∧ w.frozen? ⟨p, 5, none⟩ = false ∧ w.frozen? ⟨p, 6, none⟩ = false ∧ w.frozen? ⟨p, 7, none⟩ = false ∧ w.frozen? ⟨p, 8, none⟩ = false ∧ w.frozen? ⟨p, 9, none⟩ = false ∧ w.frozen? ⟨p, 10, none⟩ = false ∧ w.frozen? ⟨p, 11, none⟩ = false :=
  ⟨⟨hb.cell 0, hb.cell 1, hb.cell 2, hb.cell 3, hb.cell 4, hb.cell 5, hb.cell 6, hb.cell 7, hb.cell 8, hb.cell 9, hb.cell 10, hb.cell 11⟩, hb.free 0, hb.free 1, hb.free 2, hb.free 3, hb.free 4, hb.free 5, hb.free 6, hb.free 7, hb.free 8, hb.free 9, hb.free 10, hb.free 11⟩
/-- an outlet's zero -/
abbrev z12 : List Value := [.int .i64 0, .int .i64 0, .int .i64 0, .int .i64 0, .int .i64 0, .slice none 0 0, .int .i64 0, .slice none 0 0, .int .i64 0, .bool false, .int .i64 0, .int .i64 0]
/-- the reference's flow with another queue -/
def Rf.with (f : Rf) (q : que.Q) (ao : Option Addr) (c : Nat) : Rf := ⟨f.id, f.video, q, ao, c⟩
/-- four cells of a row are stored -/
theorem FE_set {w wr : World} {g n c : Nat} {L : List Rf} (h : Gr FE FT w wr (.slice (some ⟨g, 0, none⟩) n c) L) {i : Nat} {f : Rf} (hf : L[i]? = some f) (q : que.Q) (ao : Option Addr) (m cc : Nat) (hm : m = q.L.length) :
    Gr FE FT w ((((wr.setCell ⟨g, i * 6 + 2, none⟩ (.int .i64 q.frames)).setCell ⟨g, i * 6 + 3, none⟩ (.int .i64 q.most)).setCell ⟨g, i * 6 + 4, none⟩ (.slice ao m cc)).setCell ⟨g, i * 6 + 5, none⟩ (.bool q.broken)) (.slice (some ⟨g, 0, none⟩) n c) (L.set i (f.with q ao cc)) := by
  subst hm
  have hi : i < L.length := (List.getElem?_eq_some_iff.1 hf).1
  have g0 : (L.set i (f.with q ao cc))[i]? = some (f.with q ao cc) := by rw [List.getElem?_set, if_pos rfl, if_pos hi]
  have h1 := h.own.setCell (i := 2) (y := ⟨f.id, f.video, ⟨q.frames, f.q.most, f.q.L, f.q.broken⟩, f.ao, f.c⟩) rfl hf (.int .i64 q.frames) (by decide) rfl
  have a1 : (L.set i ⟨f.id, f.video, ⟨q.frames, f.q.most, f.q.L, f.q.broken⟩, f.ao, f.c⟩)[i]? = some ⟨f.id, f.video, ⟨q.frames, f.q.most, f.q.L, f.q.broken⟩, f.ao, f.c⟩ := by rw [List.getElem?_set, if_pos rfl, if_pos hi]
  have h2 := h1.setCell (i := 3) (y := ⟨f.id, f.video, ⟨q.frames, q.most, f.q.L, f.q.broken⟩, f.ao, f.c⟩) rfl a1 (.int .i64 q.most) (by decide) rfl
  rw [List.set_set] at h2
  have a2 : (L.set i ⟨f.id, f.video, ⟨q.frames, q.most, f.q.L, f.q.broken⟩, f.ao, f.c⟩)[i]? = some ⟨f.id, f.video, ⟨q.frames, q.most, f.q.L, f.q.broken⟩, f.ao, f.c⟩ := by rw [List.getElem?_set, if_pos rfl, if_pos hi]
  have h3 := h2.setCell (i := 4) (y := ⟨f.id, f.video, ⟨q.frames, q.most, q.L, f.q.broken⟩, ao, cc⟩) rfl a2 (.slice ao q.L.length cc) (by decide) rfl
  rw [List.set_set] at h3
  have a3 : (L.set i ⟨f.id, f.video, ⟨q.frames, q.most, q.L, f.q.broken⟩, ao, cc⟩)[i]? = some ⟨f.id, f.video, ⟨q.frames, q.most, q.L, f.q.broken⟩, ao, cc⟩ := by rw [List.getElem?_set, if_pos rfl, if_pos hi]
  have h4 := h3.setCell (i := 5) (y := f.with q ao cc) rfl a3 (.bool q.broken) (by decide) rfl
  rw [List.set_set] at h4
  have t : Turns (· = g) wr ((((wr.setCell ⟨g, i * 6 + 2, none⟩ (.int .i64 q.frames)).setCell ⟨g, i * 6 + 3, none⟩ (.int .i64 q.most)).setCell ⟨g, i * 6 + 4, none⟩ (.slice ao q.L.length cc)).setCell ⟨g, i * 6 + 5, none⟩ (.bool q.broken)) := ((((Turns.refl (· = g) wr).setCell (p := ⟨g, i * 6 + 2, none⟩) (.inl rfl) _).setCell (p := ⟨g, i * 6 + 3, none⟩) (.inl rfl) _).setCell (p := ⟨g, i * 6 + 4, none⟩) (.inl rfl) _).setCell (p := ⟨g, i * 6 + 5, none⟩) (.inl rfl) _
  exact ⟨h4, h.vb, h.n.trans (t.mono (fun k _ hk => .inr (by rw [hk]; exact h.vb g rfl)))⟩

set_option maxRecDepth 100000 in
set_option maxHeartbeats 4000000 in
theorem rset (vL : Value) (ar : Option Addr) (nr cr : Nat) (L : List Rf) (r : Eo) (i : Nat) (f : Rf) (q : que.Q) (ao : Option Addr) (m cc : Nat) (w : World) (h : TS FE FT w vL L) (hl : L.length ≤ 1000000) (hf : L[i]? = some f) (hm : m = q.L.length) :
    Calls Try.prog 72 #[.agg (rO r vL (.slice ar nr cr)), .int .i64 i, .agg #[.int .i64 q.frames, .int .i64 q.most, .slice ao m cc, .bool q.broken]] w fun e w' => ∃ a4 n4 c4, e = .returned (.agg (rO r (.slice a4 n4 c4) (.slice ar nr cr))) ∧ TS FE FT w' (.slice a4 n4 c4) (L.set i (f.with q ao cc)) ∧ New w w' := by
  have HS := Lib.hid h
  have HX := Lib.hid hf
  have HM := Lib.hid hm
  obtain ⟨al, n, c, hv, hn, _, _⟩ := h.form
  have HN := Lib.hid hn
  have hn2 : n ≤ 1000000 := by omega
  have HLM : Hid (([] : List Rf).length + L.length ≤ 1048576) := Lib.hid (by simp; omega)
  have hil := (List.getElem?_eq_some_iff.1 hf).1
  have j0 : (0 : Int) ≤ (i : Int) := by omega
  have j1 : (i : Int) < (n : Int) := by omega
  subst hv
  obtain ⟨x0, x1, x2, x3⟩ := q
  dsimp only at *
  clear h hn hl hf hm hil
  have HB : Hid (Blk (((w.alloc (.cells (rO r (.slice al n c) (.slice ar nr cr)) RT20)).alloc (.cells #[.int .i64 x0, .int .i64 x1, .slice ao m cc, .bool x3] que.RQ)).alloc (.cells z12.toArray RT20)) w.heap.size (rO r (.slice al n c) (.slice ar nr cr)) RT20) := Lib.hid (((Blk.new _ _ _).alloc _).alloc _)
  have HQ : Hid (Blk (((w.alloc (.cells (rO r (.slice al n c) (.slice ar nr cr)) RT20)).alloc (.cells #[.int .i64 x0, .int .i64 x1, .slice ao m cc, .bool x3] que.RQ)).alloc (.cells z12.toArray RT20)) (w.heap.size + 1) #[.int .i64 x0, .int .i64 x1, .slice ao m cc, .bool x3] que.RQ) := Lib.hid (by
    rw [show w.heap.size + 1 = (w.alloc (.cells (rO r (.slice al n c) (.slice ar nr cr)) RT20)).heap.size by simp]
    exact (Blk.new _ _ _).alloc _)
  have HR : Hid (Blk (((w.alloc (.cells (rO r (.slice al n c) (.slice ar nr cr)) RT20)).alloc (.cells #[.int .i64 x0, .int .i64 x1, .slice ao m cc, .bool x3] que.RQ)).alloc (.cells z12.toArray RT20)) (w.heap.size + 1 + 1) z12.toArray RT20) := Lib.hid (by
    rw [show w.heap.size + 1 + 1 = ((w.alloc (.cells (rO r (.slice al n c) (.slice ar nr cr)) RT20)).alloc (.cells #[.int .i64 x0, .int .i64 x1, .slice ao m cc, .bool x3] que.RQ)).heap.size by simp]
    exact Blk.new _ _ _)
  have H0 : Hid (New w (((w.alloc (.cells (rO r (.slice al n c) (.slice ar nr cr)) RT20)).alloc (.cells #[.int .i64 x0, .int .i64 x1, .slice ao m cc, .bool x3] que.RQ)).alloc (.cells z12.toArray RT20))) := Lib.hid ((((Turns.refl _ _).alloc _).alloc _).alloc _)
  have HPP : Hid (w.heap.size ≠ w.heap.size + 1 + 1 ∧ w.heap.size ≤ w.heap.size ∧ w.heap.size ≤ w.heap.size + 1 + 1) := Lib.hid (by omega)
  go_enter Try.func72, Try.ntmps72
  go_upto_region 1 with fail
  refine (show Code.wp _ _ _ _ (((w.alloc (.cells (rO r (.slice al n c) (.slice ar nr cr)) RT20)).alloc (.cells #[.int .i64 x0, .int .i64 x1, .slice ao m cc, .bool x3] que.RQ)).alloc (.cells z12.toArray RT20)) from ?_)
  generalize ((w.alloc (.cells (rO r (.slice al n c) (.slice ar nr cr)) RT20)).alloc (.cells #[.int .i64 x0, .int .i64 x1, .slice ao m cc, .bool x3] que.RQ)).alloc (.cells z12.toArray RT20) = w2 at *
  obtain ⟨pb, hpb⟩ : ∃ pb, pb = w.heap.size := ⟨_, rfl⟩
  rw [← hpb] at HB HQ HR
  rw [show (w.heap.size ≠ w.heap.size + 1 + 1 ∧ w.heap.size ≤ w.heap.size ∧ w.heap.size ≤ w.heap.size + 1 + 1) = (pb ≠ pb + 1 + 1 ∧ w.heap.size ≤ pb ∧ w.heap.size ≤ pb + 1 + 1) by rw [hpb]] at HPP
  rw [← hpb]
  clear hpb
  generalize pb + 1 + 1 = pr at *
  generalize pb + 1 = pq at *
  have b5 : w2.cell? ⟨pb, 5, none⟩ = some (.slice al n c) := HB.out.cell 5
  have hpl := HB.out.lt
  have HO1 : Hid (Owns FE FT (w2.alloc (.cells #[] FT)) (.slice (some ⟨w2.heap.size, 0, none⟩) 0 0) []) := Lib.hid (made0G FE (Blk.new _ _ _))
  have HS1 : Hid (Sub FE 0 (w2.alloc (.cells #[] FT)) (.slice al n c) L) := Lib.hid ((HS.out.later H0.out).later ((Turns.refl _ _).alloc _)).sub
  go_wp2_with (at_builtin; refine wpList_append_sub (E := FE) Try.underlying60 infoF rfl (by decide) (by decide) rfl _ _ rfl _ [] L rfl HO1.out _ rfl 0 HS1.out HLM.out ?_)
  intro v4 w4 hown hgrow hat
  have hg4 : Gr FE FT w2 w4 v4 L := madeG ((Turns.refl (fun _ => False) w2).alloc (.cells #[] FT)) (Nat.le_refl _) hown hgrow (by rw [World.size_alloc]; exact hat)
  obtain ⟨a3, c3, hv3, _⟩ := hg4.own.form
  rw [← HN.out] at hv3
  subst hv3
  obtain ⟨g3, hg3, hgl3, hcell⟩ := own_at hg4.own HX.out
  subst hg3
  have HG4 := Lib.hid hg4
  have y2 := own_free hg4.own (i * 6 + 2)
  have y3 := own_free hg4.own (i * 6 + 3)
  have y4 := own_free hg4.own (i * 6 + 4)
  have y5 := own_free hg4.own (i * 6 + 5)
  have z2 := hcell 2 _ rfl
  have z3 := hcell 3 _ rfl
  have z4 := hcell 4 _ rfl
  have z5 := hcell 5 _ rfl
  change w4.cell? ⟨g3, i * 6 + 2, none⟩ = some (.int .i64 f.q.frames) at z2
  change w4.cell? ⟨g3, i * 6 + 3, none⟩ = some (.int .i64 f.q.most) at z3
  change w4.cell? ⟨g3, i * 6 + 4, none⟩ = some (.slice f.ao f.q.L.length f.c) at z4
  change w4.cell? ⟨g3, i * 6 + 5, none⟩ = some (.bool f.q.broken) at z5
  clear hown hgrow hat hg4 HO1 HS1 b5 hpl hcell
  have HB4 := Lib.hid (HG4.out.n.blk HB.out (fun h => h))
  have HQ4 := Lib.hid (HG4.out.n.blk HQ.out (fun h => h))
  have HR4 := Lib.hid (HG4.out.n.blk HR.out (fun h => h))
  obtain ⟨⟨q0, q1, q2, q3⟩, _⟩ := que.four HQ4.out
  have HG5 := Lib.hid (FE_set HG4.out HX.out ⟨x0, x1, x2, x3⟩ ao m cc HM.out)
  have HGP : Hid (g3 ≠ pb ∧ g3 ≠ pr) := Lib.hid ⟨fun e => (TS.of_owns HG4.out.own).off HB4.out (by decide) (by rw [← e]; rfl), fun e => (TS.of_owns HG4.out.own).off HR4.out (by decide) (by rw [← e]; rfl)⟩
  have HT5 : Hid (Turns (· = g3) w4 ((((w4.setCell ⟨g3, i * 6 + 2, none⟩ (.int .i64 x0)).setCell ⟨g3, i * 6 + 3, none⟩ (.int .i64 x1)).setCell ⟨g3, i * 6 + 4, none⟩ (.slice ao m cc)).setCell ⟨g3, i * 6 + 5, none⟩ (.bool x3))) := Lib.hid (((((Turns.refl (· = g3) w4).setCell (p := ⟨g3, i * 6 + 2, none⟩) (.inl rfl) _).setCell (p := ⟨g3, i * 6 + 3, none⟩) (.inl rfl) _).setCell (p := ⟨g3, i * 6 + 4, none⟩) (.inl rfl) _).setCell (p := ⟨g3, i * 6 + 5, none⟩) (.inl rfl) _)
  dsimp only at HG5
  go_upto_region 3 with fail
  refine (show Code.wp _ _ _ _ ((((w4.setCell ⟨g3, i * 6 + 2, none⟩ (.int .i64 x0)).setCell ⟨g3, i * 6 + 3, none⟩ (.int .i64 x1)).setCell ⟨g3, i * 6 + 4, none⟩ (.slice ao m cc)).setCell ⟨g3, i * 6 + 5, none⟩ (.bool x3)) from ?_)
  clear y2 y3 y4 y5 z2 z3 z4 z5 q0 q1 q2 q3 hgl3
  generalize (((w4.setCell ⟨g3, i * 6 + 2, none⟩ (.int .i64 x0)).setCell ⟨g3, i * 6 + 3, none⟩ (.int .i64 x1)).setCell ⟨g3, i * 6 + 4, none⟩ (.slice ao m cc)).setCell ⟨g3, i * 6 + 5, none⟩ (.bool x3) = w5 at *
  have HB5 := Lib.hid (HT5.out.blk HB4.out (fun e => HGP.out.1 e.symm))
  have HR5 := Lib.hid (HT5.out.blk HR4.out (fun e => HGP.out.2 e.symm))
  have b5 : w5.cell? ⟨pb, 5, none⟩ = some (.slice al n c) := HB5.out.cell 5
  have f5 := HB5.out.free 5
  have T6 : Turns (· = pb) w5 (w5.setCell ⟨pb, 5, none⟩ (.slice (some ⟨g3, 0, none⟩) n c3)) := (Turns.refl (· = pb) _).setCell (.inl rfl) _
  have HB6 : Hid (Blk (w5.setCell ⟨pb, 5, none⟩ (.slice (some ⟨g3, 0, none⟩) n c3)) pb (rO r (.slice (some ⟨g3, 0, none⟩) n c3) (.slice ar nr cr)) RT20) := Lib.hid (HB5.out.set 5 _)
  have HR6 := Lib.hid (T6.blk HR5.out (fun e => HPP.out.1 e.symm))
  have HG6 : Hid (TS FE FT (w5.setCell ⟨pb, 5, none⟩ (.slice (some ⟨g3, 0, none⟩) n c3)) (.slice (some ⟨g3, 0, none⟩) n c3) (L.set i (f.with ⟨x0, x1, x2, x3⟩ ao cc))) := Lib.hid ((TS.of_owns HG5.out.own).turns T6 (fun y hy e => (TS.of_owns HG5.out.own).off HB5.out (by decide) (by rw [hy, e])))
  have HN6 : Hid (New w (w5.setCell ⟨pb, 5, none⟩ (.slice (some ⟨g3, 0, none⟩) n c3))) := Lib.hid ((H0.out.trans (HG5.out.n.mono (fun _ _ h => h.elim))).trans (T6.mono (fun k _ hk => .inr (by rw [hk]; exact HPP.out.2.1))))
  clear T6
  go_upto_region 4 with fail
  refine (show Code.wp _ _ _ _ (w5.setCell ⟨pb, 5, none⟩ (.slice (some ⟨g3, 0, none⟩) n c3)) from ?_)
  clear b5 f5
  generalize w5.setCell ⟨pb, 5, none⟩ (.slice (some ⟨g3, 0, none⟩) n c3) = w6 at *
  obtain ⟨⟨b0, b1, b2, b3, b4, b5, b6, b7, b8, b9, b10, b11⟩, _⟩ := twelve HB6.out
  obtain ⟨⟨r0, r1, r2, r3, r4, r5, r6, r7, r8, r9, r10, r11⟩, y0, y1, y2, y3, y4, y5, y6, y7, y8, y9, y10, y11⟩ := twelve HR6.out
  have hne := HPP.out.1
  have hne' := hne.symm
  have t9 : Turns (· = pr) w6 (puts w6 pr 0 (rO r (.slice (some ⟨g3, 0, none⟩) n c3) (.slice ar nr cr)).toList) := puts_turns (S := (· = pr)) (.inl rfl) _ 0 _ (Turns.refl _ _)
  have HFI : Hid (Blk (puts w6 pr 0 (rO r (.slice (some ⟨g3, 0, none⟩) n c3) (.slice ar nr cr)).toList) pr (rO r (.slice (some ⟨g3, 0, none⟩) n c3) (.slice ar nr cr)) RT20 ∧ TS FE FT (puts w6 pr 0 (rO r (.slice (some ⟨g3, 0, none⟩) n c3) (.slice ar nr cr)).toList) (.slice (some ⟨g3, 0, none⟩) n c3) (L.set i (f.with ⟨x0, x1, x2, x3⟩ ao cc)) ∧ New w (puts w6 pr 0 (rO r (.slice (some ⟨g3, 0, none⟩) n c3) (.slice ar nr cr)).toList)) := Lib.hid ⟨puts_blk _ _ HR6.out rfl, HG6.out.turns t9 (fun y hy e => HG6.out.off HR6.out (by decide) (by rw [hy, e])), HN6.out.trans (t9.mono (fun k _ hk => .inr (by rw [hk]; exact HPP.out.2.2)))⟩
  clear t9
  go_wp2_with fail
  refine (show bodyPost _ _ _ _ _ (puts w6 pr 0 (rO r (.slice (some ⟨g3, 0, none⟩) n c3) (.slice ar nr cr)).toList) from ?_)
  clear b0 b1 b2 b3 b4 b5 b6 b7 b8 b9 b10 b11 r0 r1 r2 r3 r4 r5 r6 r7 r8 r9 r10 r11 y0 y1 y2 y3 y4 y5 y6 y7 y8 y9 y10 y11
  generalize puts w6 pr 0 (rO r (.slice (some ⟨g3, 0, none⟩) n c3) (.slice ar nr cr)).toList = w12 at *
  obtain ⟨⟨e0, e1, e2, e3, e4, e5, e6, e7, e8, e9, e10, e11⟩, _⟩ := twelve HFI.out.1
  refine bodyPost_ret (v := .agg (rO r (.slice (some ⟨g3, 0, none⟩) n c3) (.slice ar nr cr))) (by simp [results, Try.results72, go_sem, e0, e1, e2, e3, e4, e5, e6, e7, e8, e9, e10, e11]) rfl ?_
  exact ⟨some ⟨g3, 0, none⟩, n, c3, rfl, HFI.out.2.1, HFI.out.2.2⟩
end Go.Proofs.Ytcppibjllaablaa.egr

/-
  The reference of layer 20: what its calls keep; Break.
-/
namespace Go.Proofs.Ytcppibjllaablaa.egr
open Go.RowKit mem
open Go.Proofs.Ytcppibjllaablaa.drr (plc plc_at plc_no plc_cases before_succ before_all)
set_option linter.unusedVariables false

/-- a call's copy of the outlet, and its result's place -/
structure Bx (w wx : World) (pb pr : Nat) (r : Eo) (vL vS : Value) : Prop where
  bx : Blk wx pb (rO r vL vS) RT20
  rb : Blk wx pr z12.toArray RT20
  n : New w wx
  lo : w.heap.size ≤ pb ∧ w.heap.size ≤ pr ∧ pb ≠ pr
section
variable {w wx w2 : World} {pb pr : Nat} {r : Eo} {vL vS : Value}
theorem Bx.later (h : Bx w wx pb pr r vL vS) (n : New wx w2) : Bx w w2 pb pr r vL vS := ⟨n.blk h.bx (fun h => h), n.blk h.rb (fun h => h), h.n.trans (n.mono (fun _ _ h => h.elim)), h.lo⟩
theorem Bx.start (w : World) (r : Eo) (vL vS : Value) : Bx w ((w.alloc (.cells (rO r vL vS) RT20)).alloc (.cells z12.toArray RT20)) w.heap.size (w.heap.size + 1) r vL vS :=
  ⟨(Blk.new _ _ _).alloc _, by
    rw [show w.heap.size + 1 = (w.alloc (.cells (rO r vL vS) RT20)).heap.size by simp]
    exact Blk.new _ _ _, ((Turns.refl _ _).alloc _).alloc _, by omega, by omega, by omega⟩
theorem Bx.start3 (w : World) (r : Eo) (vL vS : Value) (cs : Array Value) (T : TypeId) : Bx w (((w.alloc (.cells (rO r vL vS) RT20)).alloc (.cells cs T)).alloc (.cells z12.toArray RT20)) w.heap.size (w.heap.size + 1 + 1) r vL vS ∧ Blk (((w.alloc (.cells (rO r vL vS) RT20)).alloc (.cells cs T)).alloc (.cells z12.toArray RT20)) (w.heap.size + 1) cs T :=
  ⟨⟨((Blk.new _ _ _).alloc _).alloc _, by
    rw [show w.heap.size + 1 + 1 = ((w.alloc (.cells (rO r vL vS) RT20)).alloc (.cells cs T)).heap.size by simp]
    exact Blk.new _ _ _, (((Turns.refl _ _).alloc _).alloc _).alloc _, by omega, by omega, by omega⟩, by
    rw [show w.heap.size + 1 = (w.alloc (.cells (rO r vL vS) RT20)).heap.size by simp]
    exact (Blk.new _ _ _).alloc _⟩
theorem Bx.turn (h : Bx w wx pb pr r vL vS) (r' : Eo) (vL' vS' : Value) : Turns (· = pr) wx (puts wx pr 0 (rO r' vL' vS').toList) := puts_turns (S := (· = pr)) (.inl rfl) _ 0 _ (Turns.refl _ _)
/-- the result is told -/
theorem Bx.fin (h : Bx w wx pb pr r vL vS) (r' : Eo) (vL' vS' : Value) : Blk (puts wx pr 0 (rO r' vL' vS').toList) pr (rO r' vL' vS') RT20 ∧ New w (puts wx pr 0 (rO r' vL' vS').toList) :=
  ⟨puts_blk _ _ h.rb rfl, h.n.trans ((h.turn r' vL' vS').mono (fun k _ hk => .inr (by rw [hk]; exact h.lo.2.1)))⟩
theorem Bx.ts (h : Bx w wx pb pr r vL vS) (r' : Eo) (vL' vS' : Value) {α : Type} {E : Enc α} {T : TypeId} {v : Value} {l : List α} (k : TS E T wx v l) (hT : T ≠ RT20) : TS E T (puts wx pr 0 (rO r' vL' vS').toList) v l :=
  k.turns (h.turn r' vL' vS') (fun y hy e => k.off h.rb hT (by rw [hy, e]))
theorem Bx.ow (h : Bx w wx pb pr r vL vS) (r' : Eo) (vL' vS' : Value) {α : Type} {E : Enc α} {T : TypeId} {v : Value} {l : List α} (k : Owns E T wx v l) (hT : T ≠ RT20) : Owns E T (puts wx pr 0 (rO r' vL' vS').toList) v l :=
  k.turns (h.turn r' vL' vS') (fun y hy e => own_ne k h.rb hT (by rw [hy, e]))
end
/-- flows by rising numbers -/
def RAsc (L : List Rf) : Prop := (L.map (·.id)).Pairwise (· < ·)
theorem RAsc.lt {L : List Rf} (h : RAsc L) {i j : Nat} {f g : Rf} (hf : L[i]? = some f) (hg : L[j]? = some g) (hij : i < j) : f.id < g.id := by
  have h' := List.pairwise_map.1 h
  obtain ⟨h1, e1⟩ := List.getElem?_eq_some_iff.1 hf
  obtain ⟨h2, e2⟩ := List.getElem?_eq_some_iff.1 hg
  have := List.pairwise_iff_getElem.1 h' i j h1 h2 hij
  rw [e1, e2] at this
  exact this
theorem RAsc.inj {L : List Rf} (h : RAsc L) {i j : Nat} {f g : Rf} (hf : L[i]? = some f) (hg : L[j]? = some g) (e : f.id = g.id) : i = j := by
  rcases Nat.lt_trichotomy i j with hij | hij | hij
  · have := h.lt hf hg hij; omega
  · exact hij
  · have := h.lt hg hf hij; omega
theorem find_is20 {L : List Rf} (ha : RAsc L) {id : Int} {i : Nat} {f : Rf} (hf : L[i]? = some f) (e : f.id = id) : plc L (fun g => g.id == id) = (i : Int) :=
  plc_at hf (by simp [e]) (fun j g hj hg => by
    have := ha.lt hg hf hj
    simp; omega)
theorem find_not20 {L : List Rf} {id : Int} (h : ∀ f ∈ L, f.id ≠ id) : plc L (fun g => g.id == id) = -1 :=
  plc_no (fun j g hg => by simpa using h g (List.mem_of_getElem? hg))
theorem toE_set {L : List Rf} (ha : RAsc L) {i : Nat} {f : Rf} (hf : L[i]? = some f) (q : que.Q) (ao : Option Addr) (c : Nat) : (L.set i (f.with q ao c)).map toE = setQ (L.map toE) f.id (.slice none 0 0) q := by
  apply List.ext_getElem?
  intro j
  unfold setQ
  rw [List.getElem?_map, List.getElem?_set, List.getElem?_map, List.getElem?_map]
  by_cases e : i = j
  · subst e
    have hlt := (List.getElem?_eq_some_iff.1 hf).1
    rw [if_pos rfl, if_pos hlt, hf]
    show some (toE (f.with q ao c)) = some (if (toE f).id = f.id then _ else _)
    rw [if_pos (show (toE f).id = f.id from rfl)]
    rfl
  · rw [if_neg e]
    cases hj : L[j]? with
    | none => rfl
    | some g =>
      have : ¬ g.id = f.id := fun e2 => e (ha.inj hf hj e2.symm)
      show some (toE g) = some (if (toE g).id = f.id then _ else toE g)
      rw [if_neg (show ¬ (toE g).id = f.id from this)]
theorem RAsc.set {L : List Rf} (ha : RAsc L) {i : Nat} {f : Rf} (hf : L[i]? = some f) (q : que.Q) (ao : Option Addr) (c : Nat) : RAsc (L.set i (f.with q ao c)) := by
  unfold RAsc
  have : (L.set i (f.with q ao c)).map (·.id) = L.map (·.id) := by
    rw [List.map_set]
    have hlt := (List.getElem?_eq_some_iff.1 hf).1
    have e : (f.with q ao c).id = (L.map (·.id))[i]'(by rw [List.length_map]; exact hlt) := by
      rw [List.getElem_map]
      have := (List.getElem?_eq_some_iff.1 hf).2
      rw [this]; rfl
    rw [e, List.set_getElem_self]
  rw [this]
  exact ha
/-- a flow's queue anew -/
theorem RO.set {w w' : World} {vL vS : Value} {L : List Rf} {r : Eo} (h : RO w vL vS L r) (n : New w w') (ha : RAsc L) {i : Nat} {f : Rf} (hf : L[i]? = some f) {q : que.Q} {ao : Option Addr} {c : Nat} {vL' : Value} (hl : TS FE FT w' vL' (L.set i (f.with q ao c))) (hq : TS que.IE que.OT w' (.slice ao q.L.length c) q.L) :
    RO w' vL' vS (L.set i (f.with q ao c)) ⟨r.frames, r.bytes, r.age, r.most, r.guard, r.credit, r.row, setQ r.L f.id (.slice none 0 0) q, r.s⟩ := by
  have h2 := h.later n
  refine ⟨hl, fun g hg => ?_, h2.s, ?_, h2.b⟩
  · rcases List.mem_or_eq_of_mem_set hg with hg | hg
    · exact h2.q g hg
    · rw [hg]; exact hq
  · show setQ r.L f.id _ q = _
    rw [toE_set ha hf, h.e]

set_option maxRecDepth 100000 in
set_option maxHeartbeats 4000000 in
theorem rbreak_none (al : Option Addr) (nl cl : Nat) (ar : Option Addr) (nr cr : Nat) (L : List Rf) (r : Eo) (id : Int) (w : World) (h : RO w (.slice al nl cl) (.slice ar nr cr) L r) (hl : L.length ≤ 100000) (hno : ∀ f ∈ L, f.id ≠ id) :
    Calls Try.prog 80 #[.agg (rO r (.slice al nl cl) (.slice ar nr cr)), .int .i64 id] w fun e w' => e = .returned (.tuple #[.agg (rO r (.slice al nl cl) (.slice ar nr cr)), .slice none 0 0]) ∧ New w w' := by
  have HO := Lib.hid h
  have HB := Lib.hid (Bx.start w r (.slice al nl cl) (.slice ar nr cr))
  have HFN := Lib.hid (find_not20 hno)
  have HFD := Lib.hid (fun W (N : New w W) => rfind20 (.slice al nl cl) (.slice ar nr cr) L r id W (HO.out.later N).l (by omega))
  rw [HFN.out] at HFD
  clear h hl hno
  go_enter Try.func80, Try.ntmps80
  go_upto_region 1 with fail
  refine (show Code.wp _ _ _ _ ((w.alloc (.cells (rO r (.slice al nl cl) (.slice ar nr cr)) RT20)).alloc (.cells z12.toArray RT20)) from ?_)
  generalize (w.alloc (.cells (rO r (.slice al nl cl) (.slice ar nr cr)) RT20)).alloc (.cells z12.toArray RT20) = w2 at *
  generalize w.heap.size + 1 = pr at *
  generalize w.heap.size = pb at *
  obtain ⟨⟨b0, b1, b2, b3, b4, b5, b6, b7, b8, b9, b10, b11⟩, _⟩ := twelve HB.out.bx
  have HF2 := Lib.hid (HFD.out w2 HB.out.n)
  clear HFD
  go_wp2_with fail
  refine HF2.out.mono ?_
  rintro e w3 ⟨rfl, n3⟩
  have HB3 := Lib.hid (HB.out.later n3)
  clear n3 b0 b1 b2 b3 b4 b5 b6 b7 b8 b9 b10 b11 HF2 HB
  obtain ⟨⟨b0, b1, b2, b3, b4, b5, b6, b7, b8, b9, b10, b11⟩, _⟩ := twelve HB3.out.bx
  obtain ⟨⟨r0, r1, r2, r3, r4, r5, r6, r7, r8, r9, r10, r11⟩, y0, y1, y2, y3, y4, y5, y6, y7, y8, y9, y10, y11⟩ := twelve HB3.out.rb
  have hne := HB3.out.lo.2.2
  have hne' := hne.symm
  have HFI := Lib.hid (HB3.out.fin r (.slice al nl cl) (.slice ar nr cr))
  go_wp2_with fail
  refine (show bodyPost _ _ _ _ _ (puts w3 pr 0 (rO r (.slice al nl cl) (.slice ar nr cr)).toList) from ?_)
  clear b0 b1 b2 b3 b4 b5 b6 b7 b8 b9 b10 b11 r0 r1 r2 r3 r4 r5 r6 r7 r8 r9 r10 r11 y0 y1 y2 y3 y4 y5 y6 y7 y8 y9 y10 y11
  generalize puts w3 pr 0 (rO r (.slice al nl cl) (.slice ar nr cr)).toList = w12 at *
  obtain ⟨⟨e0, e1, e2, e3, e4, e5, e6, e7, e8, e9, e10, e11⟩, _⟩ := twelve HFI.out.1
  refine bodyPost_ret (v := .tuple #[.agg (rO r (.slice al nl cl) (.slice ar nr cr)), .slice none 0 0]) (by simp [results, Try.results80, go_sem, e0, e1, e2, e3, e4, e5, e6, e7, e8, e9, e10, e11]) rfl ?_
  exact ⟨rfl, HFI.out.2⟩
end Go.Proofs.Ytcppibjllaablaa.egr

/-
  The reference of layer 20: Break, of a flow that is there.
-/
namespace Go.Proofs.Ytcppibjllaablaa.egr
open Go.RowKit mem
open Go.Proofs.Ytcppibjllaablaa.drr (plc plc_at plc_no plc_cases before_succ before_all)
set_option linter.unusedVariables false

set_option maxRecDepth 100000 in
set_option maxHeartbeats 4000000 in
theorem rbreak_some (al : Option Addr) (nl cl : Nat) (ar : Option Addr) (nr cr : Nat) (L : List Rf) (r : Eo) (i : Nat) (f : Rf) (w : World) (h : RO w (.slice al nl cl) (.slice ar nr cr) L r) (hl : L.length ≤ 100000) (ha : RAsc L) (hf : L[i]? = some f) (hq : f.q.L.length ≤ 100000) :
    Calls Try.prog 80 #[.agg (rO r (.slice al nl cl) (.slice ar nr cr)), .int .i64 f.id] w fun e w' => ∃ a4 n4 c4 u, e = .returned (.tuple #[.agg (rO r (.slice a4 n4 c4) (.slice ar nr cr)), u]) ∧ RO w' (.slice a4 n4 c4) (.slice ar nr cr) (L.set i (f.with (brkQ f.q) none 0)) ⟨r.frames, r.bytes, r.age, r.most, r.guard, r.credit, r.row, setQ r.L f.id (.slice none 0 0) (brkQ f.q), r.s⟩ ∧ Gr SE RSeT w w' u (nam f.id f.q.L) := by
  have HO := Lib.hid h
  have HX := Lib.hid hf
  have HAS := Lib.hid ha
  have HB := Lib.hid (Bx.start w r (.slice al nl cl) (.slice ar nr cr))
  have HFN := Lib.hid (find_is20 ha hf rfl)
  have HFD := Lib.hid (fun W (N : New w W) => rfind20 (.slice al nl cl) (.slice ar nr cr) L r f.id W (HO.out.later N).l (by omega))
  rw [HFN.out] at HFD
  have HAL := Lib.hid (fun W (N : New w W) => rall f.id (.slice f.ao f.q.L.length f.c) f.q.L W ((HO.out.later N).q f (List.mem_of_getElem? hf)).sub (by omega))
  have HST := Lib.hid (fun W (N : New w W) => rset (.slice al nl cl) ar nr cr L r i f (brkQ f.q) none 0 0 W (HO.out.later N).l (by omega) hf rfl)
  have hil := (List.getElem?_eq_some_iff.1 hf).1
  have hnl : nl = L.length := by
    obtain ⟨_, n2, c2, hv, hn, _⟩ := h.l.form
    injection hv with e1 e2 e3
    omega
  have j0 : (0 : Int) ≤ (i : Int) := by omega
  have j1 : (i : Int) < (nl : Int) := by omega
  have d1 : decide ((i : Int) < 0) = false := decide_eq_false (by omega)
  clear h hl ha hf hq hil hnl
  go_enter Try.func80, Try.ntmps80
  go_upto_region 1 with fail
  refine (show Code.wp _ _ _ _ ((w.alloc (.cells (rO r (.slice al nl cl) (.slice ar nr cr)) RT20)).alloc (.cells z12.toArray RT20)) from ?_)
  generalize (w.alloc (.cells (rO r (.slice al nl cl) (.slice ar nr cr)) RT20)).alloc (.cells z12.toArray RT20) = w2 at *
  generalize w.heap.size + 1 = pr at *
  generalize w.heap.size = pb at *
  obtain ⟨⟨b0, b1, b2, b3, b4, b5, b6, b7, b8, b9, b10, b11⟩, _⟩ := twelve HB.out.bx
  have HF2 := Lib.hid (HFD.out w2 HB.out.n)
  clear HFD
  go_wp2_with fail
  refine HF2.out.mono ?_
  rintro e w3 ⟨rfl, n3⟩
  have HB3 := Lib.hid (HB.out.later n3)
  clear n3 b0 b1 b2 b3 b4 b5 b6 b7 b8 b9 b10 b11 HF2 HB
  have b5 : w3.cell? ⟨pb, 5, none⟩ = some (.slice al nl cl) := HB3.out.bx.cell 5
  obtain ⟨g, o, hg, hgl, z0, z1, z2, z3, z4, z5⟩ := rf_at (HO.out.later HB3.out.n).l HX.out
  subst hg
  have HQ : Hid (Blk (w3.alloc (.cells #[.int .i64 f.q.frames, .int .i64 f.q.most, .slice f.ao f.q.L.length f.c, .bool f.q.broken] que.RQ)) w3.heap.size #[.int .i64 f.q.frames, .int .i64 f.q.most, .slice f.ao f.q.L.length f.c, .bool f.q.broken] que.RQ) := Lib.hid (Blk.new _ _ _)
  have HB4 := Lib.hid (HB3.out.later ((Turns.refl _ w3).alloc (.cells #[.int .i64 f.q.frames, .int .i64 f.q.most, .slice f.ao f.q.L.length f.c, .bool f.q.broken] que.RQ)))
  go_upto_region 5 with fail
  refine (show Code.wp _ _ _ _ (w3.alloc (.cells #[.int .i64 f.q.frames, .int .i64 f.q.most, .slice f.ao f.q.L.length f.c, .bool f.q.broken] que.RQ)) from ?_)
  have HQL : Hid (w.heap.size ≤ w3.heap.size) := Lib.hid HB3.out.n.size
  generalize w3.alloc (.cells #[.int .i64 f.q.frames, .int .i64 f.q.most, .slice f.ao f.q.L.length f.c, .bool f.q.broken] que.RQ) = w4 at *
  generalize w3.heap.size = pq at *
  clear b5 z0 z1 z2 z3 z4 z5 hgl HB3
  obtain ⟨⟨q0, q1, q2, q3⟩, _⟩ := que.four HQ.out
  have HA4 := Lib.hid (HAL.out w4 HB4.out.n)
  have HWL : Hid (w.heap.size ≤ w4.heap.size) := Lib.hid HB4.out.n.size
  clear HAL
  go_wp2_with fail
  refine HA4.out.mono ?_
  rintro e w5 ⟨u, rfl, hu⟩
  obtain ⟨au, cu, huv, _⟩ := hu.own.form
  generalize (nam f.id f.q.L).length = nu at huv
  subst huv
  have HU := Lib.hid hu
  have HB5 := Lib.hid (HB4.out.later hu.n)
  have HQ5 := Lib.hid (hu.n.blk HQ.out (fun h => h))
  clear hu q0 q1 q2 q3 HA4 HB4 HQ
  obtain ⟨⟨q0, q1, q2, q3⟩, f0, f1, f2, f3⟩ := que.four HQ5.out
  have T6 : Turns (· = pq) w5 ((w5.setCell ⟨pq, 2, none⟩ (.slice none 0 0)).setCell ⟨pq, 3, none⟩ (.bool true)) := ((Turns.refl (· = pq) w5).setCell (p := ⟨pq, 2, none⟩) (.inl rfl) _).setCell (p := ⟨pq, 3, none⟩) (.inl rfl) _
  have HQ6 : Hid (Blk ((w5.setCell ⟨pq, 2, none⟩ (.slice none 0 0)).setCell ⟨pq, 3, none⟩ (.bool true)) pq #[.int .i64 f.q.frames, .int .i64 f.q.most, .slice none 0 0, .bool true] que.RQ) := Lib.hid ((HQ5.out.set 2 _).set 3 _)
  have HN6 : Hid (New w ((w5.setCell ⟨pq, 2, none⟩ (.slice none 0 0)).setCell ⟨pq, 3, none⟩ (.bool true))) := Lib.hid (HB5.out.n.trans (T6.mono (fun k _ hk => .inr (by rw [hk]; exact HQL.out))))
  have HB6 : Hid (Bx w ((w5.setCell ⟨pq, 2, none⟩ (.slice none 0 0)).setCell ⟨pq, 3, none⟩ (.bool true)) pb pr r (.slice (some ⟨g, o, none⟩) nl cl) (.slice ar nr cr)) := Lib.hid ⟨T6.blk HB5.out.bx (fun e => blk_ne HB5.out.bx HQ5.out (by decide) e), T6.blk HB5.out.rb (fun e => blk_ne HB5.out.rb HQ5.out (by decide) e), HN6.out, HB5.out.lo⟩
  have HU6 : Hid (Owns SE RSeT ((w5.setCell ⟨pq, 2, none⟩ (.slice none 0 0)).setCell ⟨pq, 3, none⟩ (.bool true)) (.slice au nu cu) (nam f.id f.q.L) ∧ ∀ g, (Value.slice au nu cu).ownBlock = some g → w.heap.size ≤ g) := Lib.hid ⟨HU.out.own.turns T6 (fun y hy e => own_ne HU.out.own HQ5.out (by decide) (by rw [hy, e])), fun g hg => Nat.le_trans HWL.out (HU.out.vb g hg)⟩
  clear T6
  go_upto_region 8 with fail
  refine (show Code.wp _ _ _ _ ((w5.setCell ⟨pq, 2, none⟩ (.slice none 0 0)).setCell ⟨pq, 3, none⟩ (.bool true)) from ?_)
  clear q0 q1 q2 q3 f0 f1 f2 f3
  generalize (w5.setCell ⟨pq, 2, none⟩ (.slice none 0 0)).setCell ⟨pq, 3, none⟩ (.bool true) = w6 at *
  obtain ⟨⟨q0, q1, q2, q3⟩, _⟩ := que.four HQ6.out
  obtain ⟨⟨b0, b1, b2, b3, b4, b5, b6, b7, b8, b9, b10, b11⟩, _⟩ := twelve HB6.out.bx
  have HS6 := Lib.hid (HST.out w6 HB6.out.n)
  clear HST
  go_wp2_with fail
  refine HS6.out.mono ?_
  rintro e w7 ⟨a4, n4, c4, rfl, hts, n7⟩
  have HB7 := Lib.hid (HB6.out.later n7)
  have HU7 := Lib.hid (HU6.out.1.turns n7 (fun _ _ h => h))
  have HT7 := Lib.hid hts
  clear q0 q1 q2 q3 b0 b1 b2 b3 b4 b5 b6 b7 b8 b9 b10 b11 hts n7 HS6
  obtain ⟨⟨r0, r1, r2, r3, r4, r5, r6, r7, r8, r9, r10, r11⟩, y0, y1, y2, y3, y4, y5, y6, y7, y8, y9, y10, y11⟩ := twelve HB7.out.rb
  have HFI := Lib.hid (HB7.out.fin r (.slice a4 n4 c4) (.slice ar nr cr))
  have HFT := Lib.hid (HB7.out.ts r (.slice a4 n4 c4) (.slice ar nr cr) HT7.out (by decide))
  have HFU := Lib.hid (HB7.out.ow r (.slice a4 n4 c4) (.slice ar nr cr) HU7.out (by decide))
  go_wp2_with fail
  refine (show bodyPost _ _ _ _ _ (puts w7 pr 0 (rO r (.slice a4 n4 c4) (.slice ar nr cr)).toList) from ?_)
  clear r0 r1 r2 r3 r4 r5 r6 r7 r8 r9 r10 r11 y0 y1 y2 y3 y4 y5 y6 y7 y8 y9 y10 y11
  generalize puts w7 pr 0 (rO r (.slice a4 n4 c4) (.slice ar nr cr)).toList = w12 at *
  obtain ⟨⟨e0, e1, e2, e3, e4, e5, e6, e7, e8, e9, e10, e11⟩, _⟩ := twelve HFI.out.1
  refine bodyPost_ret (v := .tuple #[.agg (rO r (.slice a4 n4 c4) (.slice ar nr cr)), .slice au nu cu]) (by simp [results, Try.results80, go_sem, e0, e1, e2, e3, e4, e5, e6, e7, e8, e9, e10, e11]) rfl ?_
  exact ⟨a4, n4, c4, _, rfl, HO.out.set HFI.out.2 HAS.out HX.out HFT.out (TS.nil _ _ _), HFU.out, HU6.out.2, HFI.out.2⟩
end Go.Proofs.Ytcppibjllaablaa.egr

/-
  The reference of layer 20: Put.
-/
namespace Go.Proofs.Ytcppibjllaablaa.egr
open Go.RowKit mem
open Go.Proofs.Ytcppibjllaablaa.drr (plc plc_at plc_no plc_cases before_succ before_all)
set_option linter.unusedVariables false

/-- refused: no such flow, or too great -/
theorem rput_none (al : Option Addr) (nl cl : Nat) (ar : Option Addr) (nr cr : Nat) (L : List Rf) (r : Eo) (id : Int) (x : que.It) (pf : Int) (w : World) (h : RO w (.slice al nl cl) (.slice ar nr cr) L r) (hl : L.length ≤ 100000) (hpf : plc L (fun g => g.id == id) = pf) (hno : pf < 0 ∨ (0 ≤ pf ∧ r.most < x.size)) :
    Calls Try.prog 54 #[.agg (rO r (.slice al nl cl) (.slice ar nr cr)), .int .i64 id, .agg #[.int .i64 x.n, .int .i64 x.size, .int .i64 x.tick, .bool x.key]] w fun e w' => e = .returned (.tuple #[.agg (rO r (.slice al nl cl) (.slice ar nr cr)), .slice none 0 0, .bool false]) ∧ New w w' := by
  have HO := Lib.hid h
  have HB := Lib.hid (Bx.start3 w r (.slice al nl cl) (.slice ar nr cr) #[.int .i64 x.n, .int .i64 x.size, .int .i64 x.tick, .bool x.key] que.OT)
  have HFD := Lib.hid (fun W (N : New w W) => rfind20 (.slice al nl cl) (.slice ar nr cr) L r id W (HO.out.later N).l (by omega))
  rw [hpf] at HFD
  have hcs : decide (pf < 0) = true ∨ (decide (pf < 0) = false ∧ decide (r.most < x.size) = true) := by
    rcases hno with e | ⟨e1, e2⟩
    · exact .inl (decide_eq_true e)
    · exact .inr ⟨decide_eq_false (by omega), decide_eq_true e2⟩
  obtain ⟨xn, xs, xt, xk⟩ := x
  dsimp only at *
  clear h hl hpf hno
  go_enter Try.func54, Try.ntmps54
  go_upto_region 1 with fail
  refine (show Code.wp _ _ _ _ (((w.alloc (.cells (rO r (.slice al nl cl) (.slice ar nr cr)) RT20)).alloc (.cells #[.int .i64 xn, .int .i64 xs, .int .i64 xt, .bool xk] que.OT)).alloc (.cells z12.toArray RT20)) from ?_)
  generalize ((w.alloc (.cells (rO r (.slice al nl cl) (.slice ar nr cr)) RT20)).alloc (.cells #[.int .i64 xn, .int .i64 xs, .int .i64 xt, .bool xk] que.OT)).alloc (.cells z12.toArray RT20) = w2 at *
  generalize w.heap.size + 1 + 1 = pr at *
  generalize w.heap.size + 1 = px at *
  generalize w.heap.size = pb at *
  obtain ⟨⟨b0, b1, b2, b3, b4, b5, b6, b7, b8, b9, b10, b11⟩, _⟩ := twelve HB.out.1.bx
  have HF2 := Lib.hid (HFD.out w2 HB.out.1.n)
  clear HFD
  go_wp2_with fail
  refine HF2.out.mono ?_
  rintro e w3 ⟨rfl, n3⟩
  have HB3 := Lib.hid (HB.out.1.later n3)
  have HX3 := Lib.hid (n3.blk HB.out.2 (fun h => h))
  clear n3 b0 b1 b2 b3 b4 b5 b6 b7 b8 b9 b10 b11 HF2 HB
  obtain ⟨⟨b0, b1, b2, b3, b4, b5, b6, b7, b8, b9, b10, b11⟩, _⟩ := twelve HB3.out.bx
  obtain ⟨⟨r0, r1, r2, r3, r4, r5, r6, r7, r8, r9, r10, r11⟩, y0, y1, y2, y3, y4, y5, y6, y7, y8, y9, y10, y11⟩ := twelve HB3.out.rb
  obtain ⟨⟨x0, x1, x2, x3⟩, _⟩ := que.four HX3.out
  have hne := HB3.out.lo.2.2
  have hne' := hne.symm
  have HFI := Lib.hid (HB3.out.fin r (.slice al nl cl) (.slice ar nr cr))
  rcases hcs with d1 | ⟨d1, d2⟩
  all_goals
    go_wp2_with fail
    refine (show bodyPost _ _ _ _ _ (puts w3 pr 0 (rO r (.slice al nl cl) (.slice ar nr cr)).toList) from ?_)
    clear b0 b1 b2 b3 b4 b5 b6 b7 b8 b9 b10 b11 r0 r1 r2 r3 r4 r5 r6 r7 r8 r9 r10 r11 y0 y1 y2 y3 y4 y5 y6 y7 y8 y9 y10 y11 x0 x1 x2 x3
    generalize puts w3 pr 0 (rO r (.slice al nl cl) (.slice ar nr cr)).toList = w12 at *
    obtain ⟨⟨e0, e1, e2, e3, e4, e5, e6, e7, e8, e9, e10, e11⟩, _⟩ := twelve HFI.out.1
    refine bodyPost_ret (v := .tuple #[.agg (rO r (.slice al nl cl) (.slice ar nr cr)), .slice none 0 0, .bool false]) (by simp [results, Try.results54, go_sem, e0, e1, e2, e3, e4, e5, e6, e7, e8, e9, e10, e11]) rfl ?_
    exact ⟨rfl, HFI.out.2⟩
/-- what the region with r18.Put holds on to -/
abbrev HeldU (w w' : World) (pb px g o2 : Nat) (c5 z2 z3 z4 z5 x0 x1 x2 x3 : Value) : Prop := New w w' ∧ pb < w'.heap.size ∧ px < w'.heap.size ∧ g < w'.heap.size ∧ w'.cell? ⟨pb, 5, none⟩ = some c5 ∧ w'.cell? ⟨g, o2 + 2, none⟩ = some z2 ∧ w'.cell? ⟨g, o2 + 3, none⟩ = some z3 ∧ w'.cell? ⟨g, o2 + 4, none⟩ = some z4 ∧ w'.cell? ⟨g, o2 + 5, none⟩ = some z5 ∧ w'.cell? ⟨px, 0, none⟩ = some x0 ∧ w'.cell? ⟨px, 1, none⟩ = some x1 ∧ w'.cell? ⟨px, 2, none⟩ = some x2 ∧ w'.cell? ⟨px, 3, none⟩ = some x3
section
variable {w w1 w2 : World} {pb px g o2 : Nat} {c5 z2 z3 z4 z5 x0 x1 x2 x3 : Value}
theorem heldU_drew (h : HeldU w w1 pb px g o2 c5 z2 z3 z4 z5 x0 x1 x2 x3) : HeldU w w1.drew pb px g o2 c5 z2 z3 z4 z5 x0 x1 x2 x3 := by
  obtain ⟨hn, h⟩ := h
  exact ⟨hn.drew, h⟩
theorem heldU_new (n : New w1 w2) (h : HeldU w w1 pb px g o2 c5 z2 z3 z4 z5 x0 x1 x2 x3) : HeldU w w2 pb px g o2 c5 z2 z3 z4 z5 x0 x1 x2 x3 := by
  obtain ⟨hn, l1, l2, l3, h0, h1, h2, h3, h4, h5, h6, h7, h8⟩ := h
  have a := fun i => n.cell (a := ⟨pb, i, none⟩) l1 (fun h => h)
  have b := fun i => n.cell (a := ⟨px, i, none⟩) l2 (fun h => h)
  have c := fun i => n.cell (a := ⟨g, i, none⟩) l3 (fun h => h)
  exact ⟨hn.trans (n.mono (fun _ _ h => h.elim)), Nat.lt_of_lt_of_le l1 n.size, Nat.lt_of_lt_of_le l2 n.size, Nat.lt_of_lt_of_le l3 n.size, (a 5).trans h0, (c _).trans h1, (c _).trans h2, (c _).trans h3, (c _).trans h4, (b 0).trans h5, (b 1).trans h6, (b 2).trans h7, (b 3).trans h8⟩
theorem heldU_alloc (x : Obj) (h : HeldU w w1 pb px g o2 c5 z2 z3 z4 z5 x0 x1 x2 x3) : HeldU w (w1.alloc x) pb px g o2 c5 z2 z3 z4 z5 x0 x1 x2 x3 := heldU_new ((Turns.refl _ _).alloc x) h
end
end Go.Proofs.Ytcppibjllaablaa.egr
