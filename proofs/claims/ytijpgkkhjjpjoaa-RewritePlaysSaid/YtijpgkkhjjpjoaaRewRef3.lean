/-
  The reference of layer 15: Frame.
-/
import Derived.Test.YtijpgkkhjjpjoaaRewRef2
import Derived.Test.YtijpgkkhjjpjoaaRewKeeps
namespace Go.Proofs.Ytijpgkkhjjpjoaa.rew
open Go.RowKit mem
set_option linter.unusedVariables false

abbrev HeldR (w w' : World) (po pu : Nat) (a0 a1 a2 a3 a4 a5 a6 a7 a8 a9 a10 a11 m x : Value) : Prop :=
  New w w' ∧ po < w'.heap.size ∧ pu < w'.heap.size ∧ w'.cell? ⟨po, 0, none⟩ = some a0 ∧ w'.cell? ⟨po, 1, none⟩ = some a1 ∧ w'.cell? ⟨po, 2, none⟩ = some a2 ∧ w'.cell? ⟨po, 3, none⟩ = some a3 ∧ w'.cell? ⟨po, 4, none⟩ = some a4 ∧ w'.cell? ⟨po, 5, none⟩ = some a5 ∧ w'.cell? ⟨po, 6, none⟩ = some a6 ∧ w'.cell? ⟨po, 7, none⟩ = some a7 ∧ w'.cell? ⟨po, 8, none⟩ = some a8 ∧ w'.cell? ⟨po, 9, none⟩ = some a9 ∧ w'.cell? ⟨po, 10, none⟩ = some a10 ∧ w'.cell? ⟨po, 11, none⟩ = some a11 ∧ w'.cell? ⟨pu, 2, none⟩ = some m ∧ w'.cell? ⟨pu, 5, none⟩ = some x
section
variable {w w1 w2 : World} {po pu : Nat} {a0 a1 a2 a3 a4 a5 a6 a7 a8 a9 a10 a11 m x : Value}
theorem heldR_drew (h : HeldR w w1 po pu a0 a1 a2 a3 a4 a5 a6 a7 a8 a9 a10 a11 m x) : HeldR w w1.drew po pu a0 a1 a2 a3 a4 a5 a6 a7 a8 a9 a10 a11 m x := by
  obtain ⟨hn, h⟩ := h
  exact ⟨hn.drew, h⟩
theorem heldR_new (k : New w1 w2) (h : HeldR w w1 po pu a0 a1 a2 a3 a4 a5 a6 a7 a8 a9 a10 a11 m x) : HeldR w w2 po pu a0 a1 a2 a3 a4 a5 a6 a7 a8 a9 a10 a11 m x := by
  obtain ⟨hn, hl, hb, b0, b1, b2, b3, b4, b5, b6, b7, b8, b9, b10, b11, c2, c5⟩ := h
  have c := fun i => k.cell (a := ⟨po, i, none⟩) hl (fun h => h)
  have d := fun i => k.cell (a := ⟨pu, i, none⟩) hb (fun h => h)
  exact ⟨hn.trans (k.mono (fun _ _ h => h.elim)), Nat.lt_of_lt_of_le hl k.size, Nat.lt_of_lt_of_le hb k.size, (c 0).trans b0, (c 1).trans b1, (c 2).trans b2, (c 3).trans b3, (c 4).trans b4, (c 5).trans b5, (c 6).trans b6, (c 7).trans b7, (c 8).trans b8, (c 9).trans b9, (c 10).trans b10, (c 11).trans b11, (d 2).trans c2, (d 5).trans c5⟩
theorem heldR_alloc (o : Obj) (h : HeldR w w1 po pu a0 a1 a2 a3 a4 a5 a6 a7 a8 a9 a10 a11 m x) : HeldR w (w1.alloc o) po pu a0 a1 a2 a3 a4 a5 a6 a7 a8 a9 a10 a11 m x := heldR_new ((Turns.refl _ _).alloc o) h
end
theorem made_rk {w W wq : World} (h : New W wq) (hW : W.heap = (w.alloc (.cells zeroK.toArray RKT)).heap) : Blk wq w.heap.size zeroK.toArray RKT := by
  have h0 : Blk W w.heap.size zeroK.toArray RKT := by unfold Blk; rw [hW]; exact Blk.new w _ _
  exact h.blk h0 (fun h => h)

/-- what the reference's loop holds -/
structure Rp (w wr : World) (po pr : Nat) (o : O) (t S2 L2 : Int) (L : List U) (k : Nat) (v : Value) : Prop where
  bo : Blk wr po (rcs (packsO o (L.take k)) S2 L2).toArray OR
  br : Blk wr pr #[.bool false, .int .u32 0, .int .u8 0, .int .i64 0, .int .i64 0, .int .i64 0, .int .i64 0, .int .i64 0, .int .i64 0, .int .i64 0, .int .i64 0, .int .i64 0] OR
  r : Owns KE RKT wr v (packs o t (L.take k))
  b : ∀ g, v.ownBlock = some g → pr < g
  n : New w wr
def RRes (w : World) (o : O) (S2 L2 : Int) (ks : List K) (e : Ending) (w' : World) : Prop :=
  ∃ v, e = .returned (.tuple #[.agg (rcs o S2 L2).toArray, v]) ∧ Owns KE RKT w' v ks ∧ New w w' ∧ ∀ g, v.ownBlock = some g → w.heap.size ≤ g
theorem rlast (o : O) (s : Int) : rcs { o with src := s } = rcs { o with src := s } := rfl

set_option maxHeartbeats 2000000 in
set_option maxRecDepth 100000 in
theorem rframe (o : O) (S La s : Int) (a : Option Addr) (c : Nat) (l : List U) (f k : Nat) (w : World) (hb : Bd o f k) (hf : f ≤ 1000) (hk : k ≤ 1000000) (hl : l.length ≤ 1000) (hx : ∀ u ∈ l, u.x.size ≤ 1048576)
    (hr : Reads UE w a l) (S0 : -1000000000 ≤ S) (S1 : S ≤ 1000000000) (L0 : 0 ≤ La) (L1 : La ≤ 1000000000) (T : Int) (T0 : 0 ≤ T) (T1 : T ≤ 1000000000) (hT : ∀ u ∈ l, u.t = T) (hlk : Lk o S La) :
    Calls Try.prog 12 #[.agg (rcs o S La).toArray, .int .i64 s, .slice a l.length c] w
      (RRes w (frameO o s l) (if l.length = 0 then S else tS o S La s T) (if l.length = 0 then La else tL o S La s T) (frameK o s l)) := by
  cases l with
  | nil =>
    have hend : ∀ w', w' = (((w.alloc (.cells (rcs o S La).toArray OR)).alloc (.cells (rcs o S La).toArray OR)).alloc (.cells #[] RKT)) → RRes w o S La [] (.returned (.tuple #[.agg (rcs o S La).toArray, .slice (some ⟨w.heap.size + 1 + 1, 0, none⟩) 0 0])) w' := by
      rintro w' rfl
      refine ⟨_, rfl, ⟨rfl, .inr ⟨w.heap.size + 1 + 1, 0, #[], rfl, Nat.zero_le _, ?_, Nat.le_refl _, Nat.zero_le _, rfl, rfl⟩⟩, ((((Turns.refl _ _).alloc _).alloc _).alloc _), fun g hg => by (have h1 : w.heap.size + 1 + 1 = g := by simpa [Value.ownBlock] using hg); omega⟩
      have := heap_alloc_new ((w.alloc (.cells (rcs o S La).toArray OR)).alloc (.cells (rcs o S La).toArray OR)) (.cells #[] RKT)
      rwa [World.size_alloc, World.size_alloc] at this
    have HE := Lib.hid hend
    clear hend
    simp only [List.length_nil, if_true]
    obtain ⟨v, ss, ki, sq, pi, le, src, lat, sh, fr, pk, by_⟩ := o
    go_enter Try.func12, Try.ntmps12
    go_wp2
    go_returns
    exact HE.out _ rfl
  | cons u0 l0 =>
    obtain ⟨g, ha, hg, hc⟩ : ∃ g, a = some ⟨g, 0, none⟩ ∧ g < w.heap.size ∧ ∀ (k : Nat) (u : U), (u0 :: l0)[k]? = some u → ∀ (j : Nat) (x : Value), (UE.cs u)[j]? = some x → w.cell? ⟨g, k * 7 + j, none⟩ = some x := by
      rcases hr with h | h
      · cases h
      · exact h
    subst ha
    have HR : Hid (∀ w', New w w' → Reads UE w' (some ⟨g, 0, none⟩) (u0 :: l0)) := Lib.hid (fun w' ht => hr.turns ht (fun _ _ h => h))
    have c01 : w.cell? ⟨g, 1, none⟩ = some (.int .i64 T) := by have := hc 0 u0 rfl 1 _ rfl; rw [hT u0 (by simp)] at this; simpa using this
    have c05 : w.cell? ⟨g, 5, none⟩ = some (.string u0.x) := by have := hc 0 u0 rfl 5 _ rfl; simpa using this
    have hu0 : u0.t = T := hT u0 (by simp)
    have hB2 : Bd (midO o s u0) f k := by unfold midO; split; exact (hb.time _ _).count _; exact hb.time _ _
    have hLt := lk_time hlk hb.f0 s T
    have HTM := Lib.hid (fun w => rtime o S La s T w S0 S1 L0 L1 T0 T1 hb.f0)
    have HX0 : Hid (u0.x.size ≤ 1048576) := Lib.hid (hx u0 (by simp))
    have hpre : Hid (rcs { o with src := s } (tS o S La s T) (tL o S La s T) = rcs (timeO o s T) (tS o S La s T) (tL o S La s T)) := Lib.hid (by
      have hs := timeO_src o s T
      have hk : (timeO o s T).v = o.v ∧ (timeO o s T).ssrc = o.ssrc ∧ (timeO o s T).kind = o.kind ∧ (timeO o s T).seq = o.seq ∧ (timeO o s T).pic = o.pic ∧ (timeO o s T).lev = o.lev ∧ (timeO o s T).fr = o.fr ∧ (timeO o s T).pk = o.pk ∧ (timeO o s T).by_ = o.by_ := by
        unfold timeO; split; exact ⟨rfl, rfl, rfl, rfl, rfl, rfl, rfl, rfl, rfl⟩; split <;> exact ⟨rfl, rfl, rfl, rfl, rfl, rfl, rfl, rfl, rfl⟩
      obtain ⟨h1, h2, h3, h4, h5, h6, h7, h8, h9⟩ := hk
      simp only [rcs, hs, h1, h2, h3, h4, h5, h6, h7, h8, h9])
    rw [hpre.out] at HTM
    have HV : Hid (midO o s u0 = if o.v = true then countO (timeO o s T) u0.x else timeO o s T) := Lib.hid (by unfold midO; rw [hu0])
    have HB1 : Hid (Bd (timeO o s T) f k) := Lib.hid (hb.time s T)
    have hv1 : (timeO o s T).v = o.v := by unfold timeO; split; rfl; split <;> rfl
    have HFO : Hid (frameO o s (u0 :: l0) = { (packsO (midO o s u0) (u0 :: l0)) with fr := o.fr + 1 } ∧ frameK o s (u0 :: l0) = packs (midO o s u0) (timeV o s T) (u0 :: l0)) := Lib.hid ⟨rfl, by rw [← hu0]; rfl⟩
    rw [HFO.out.1, HFO.out.2, if_neg (by simp), if_neg (by simp)]
    have hfr : ∀ j, (packsO (midO o s u0) ((u0 :: l0).take j)).fr = o.fr := by
      have e : ∀ (l : List U) (q : O), (packsO q l).fr = q.fr := fun l => by induction l with
        | nil => exact fun _ => rfl
        | cons u l ih => exact fun q => ih _
      intro j; rw [e]; unfold midO timeO countO levO; repeat (first | rfl | split)
    have HFR := Lib.hid hfr
    have hmv : ∀ j, (packsO (midO o s u0) ((u0 :: l0).take j)).v = true → 0 ≤ (packsO (midO o s u0) ((u0 :: l0).take j)).pic := by
      intro j
      have kp := packs_keep ((u0 :: l0).take j) (midO o s u0)
      rw [kp.1, kp.2.1, HV.out]
      by_cases hv : o.v = true
      · rw [if_pos hv]; intro _
        have hp0 := HB1.out.p0
        have hp1 := HB1.out.p1
        unfold countO levO
        split <;> (show 0 ≤ ((timeO o s T).pic + 1) % 32768; omega)
      · rw [if_neg hv, hv1]; intro h; exact absurd h hv
    have HPY : Hid (∀ j, j < (u0 :: l0).length → ∀ u, (u0 :: l0)[j]? = some u → ∀ w', _) :=
      Lib.hid (fun j hj u hu w' => rpayload (packsO (midO o s u0) ((u0 :: l0).take j)) (tS o S La s T) (tL o S La s T) u.x w'
        ((hB2.packs ((u0 :: l0).take j) (fun v hv => hx v (List.mem_of_mem_take hv))).ok (by omega) (by rw [List.length_take]; omega)) (hmv j) (hx u (List.mem_of_getElem? hu)))
    have HBJ : Hid (∀ j, j ≤ (u0 :: l0).length → (packsO (midO o s u0) ((u0 :: l0).take j)).ok) := Lib.hid (fun j hj => (hB2.packs ((u0 :: l0).take j) (fun v hv => hx v (List.mem_of_mem_take hv))).ok (by omega) (by rw [List.length_take]; omega))
    have HXL : Hid (∀ (j : Nat) (u : U), (u0 :: l0)[j]? = some u → u.x.size ≤ 1048576) := Lib.hid (fun j u hu => hx u (List.mem_of_getElem? hu))
    have hfb := And.intro hb.f0 hb.f1
    clear hfr hmv hb hx hr hT hc hu0 hlk HFO hpre
    obtain ⟨x0, hx0⟩ : ∃ x0, u0.x = x0 := ⟨_, rfl⟩
    rw [hx0] at c05 HV HX0
    generalize timeO o s T = o1 at *
    generalize hmid : midO o s u0 = o2 at *
    generalize timeV o s T = t at *
    generalize tS o S La s T = S2 at *
    generalize tL o S La s T = L2 at *
    clear hmid
    generalize hL : u0 :: l0 = L at *
    have hLn : L.length ≠ 0 := by rw [← hL]; simp
    have hne0 : (((L.length : Nat) : Int) == 0) = false := beq_eq_false_iff_ne.2 (by omega)
    clear hL hx0
    generalize hn : L.length = n at *
    have HNN := Lib.hid hn
    clear hn
    have HW1 : Hid (Blk (((w.alloc (.cells (rcs o S La).toArray OR)).alloc (.cells #[.bool false, .int .u32 0, .int .u8 0, .int .i64 0, .int .i64 0, .int .i64 0, .int .i64 0, .int .i64 0, .int .i64 0, .int .i64 0, .int .i64 0, .int .i64 0] OR)).alloc (.cells #[] RKT)) w.heap.size (rcs o S La).toArray OR ∧ Blk (((w.alloc (.cells (rcs o S La).toArray OR)).alloc (.cells #[.bool false, .int .u32 0, .int .u8 0, .int .i64 0, .int .i64 0, .int .i64 0, .int .i64 0, .int .i64 0, .int .i64 0, .int .i64 0, .int .i64 0, .int .i64 0] OR)).alloc (.cells #[] RKT)) (w.heap.size + 1) #[.bool false, .int .u32 0, .int .u8 0, .int .i64 0, .int .i64 0, .int .i64 0, .int .i64 0, .int .i64 0, .int .i64 0, .int .i64 0, .int .i64 0, .int .i64 0] OR ∧ (((w.alloc (.cells (rcs o S La).toArray OR)).alloc (.cells #[.bool false, .int .u32 0, .int .u8 0, .int .i64 0, .int .i64 0, .int .i64 0, .int .i64 0, .int .i64 0, .int .i64 0, .int .i64 0, .int .i64 0, .int .i64 0] OR)).alloc (.cells #[] RKT)).heap[w.heap.size + 1 + 1]? = some (.cells #[] RKT (0, 0)) ∧ New w (((w.alloc (.cells (rcs o S La).toArray OR)).alloc (.cells #[.bool false, .int .u32 0, .int .u8 0, .int .i64 0, .int .i64 0, .int .i64 0, .int .i64 0, .int .i64 0, .int .i64 0, .int .i64 0, .int .i64 0, .int .i64 0] OR)).alloc (.cells #[] RKT))) := by
      refine Lib.hid ⟨((Blk.new w _ _).alloc _).alloc _, ?_, ?_, (((Turns.refl _ _).alloc _).alloc _).alloc _⟩
      · have := (Blk.new (w.alloc (.cells (rcs o S La).toArray OR)) #[.bool false, .int .u32 0, .int .u8 0, .int .i64 0, .int .i64 0, .int .i64 0, .int .i64 0, .int .i64 0, .int .i64 0, .int .i64 0, .int .i64 0, .int .i64 0] OR).alloc (.cells #[] RKT)
        rwa [World.size_alloc] at this
      · have := heap_alloc_new ((w.alloc (.cells (rcs o S La).toArray OR)).alloc (.cells #[.bool false, .int .u32 0, .int .u8 0, .int .i64 0, .int .i64 0, .int .i64 0, .int .i64 0, .int .i64 0, .int .i64 0, .int .i64 0, .int .i64 0, .int .i64 0] OR)) (.cells #[] RKT)
        rwa [World.size_alloc, World.size_alloc] at this
    have hgs : g < w.heap.size := hg
    have HC5 := Lib.hid (And.intro hg c05)
    go_enter Try.func12, Try.ntmps12
    go_upto_region 4 with fail
    obtain ⟨bo, br, hpb, n1⟩ := HW1.out
    generalize ((w.alloc (.cells (rcs o S La).toArray OR)).alloc (.cells #[.bool false, .int .u32 0, .int .u8 0, .int .i64 0, .int .i64 0, .int .i64 0, .int .i64 0, .int .i64 0, .int .i64 0, .int .i64 0, .int .i64 0, .int .i64 0] OR)).alloc (.cells #[] RKT) = w1 at *
    generalize hpbe : w.heap.size + 1 + 1 = pb at *
    generalize hpre : w.heap.size + 1 = pr at *
    generalize hpoe : w.heap.size = po at *
    have hP : Hid (w.heap.size ≤ po ∧ po < pr ∧ pr < pb ∧ g < po ∧ g < w.heap.size) := Lib.hid ⟨by omega, by omega, by omega, by omega, by omega⟩
    have hpop : po ≠ pr := by omega
    have hpob : po ≠ pb := by omega
    have d1 : w1.cell? ⟨g, 1, none⟩ = some (.int .i64 T) := (n1.cell (a := ⟨g, 1, none⟩) (by show g < w.heap.size; omega) (fun h => h)).trans c01
    have d5 : w1.cell? ⟨g, 5, none⟩ = some (.string x0) := (n1.cell (a := ⟨g, 5, none⟩) (by show g < w.heap.size; omega) (fun h => h)).trans c05
    clear hpbe hpre hpoe c01 c05 HW1 hg hgs
    go_cut [] (fun wx => Blk wx po (rcs o1 S2 L2).toArray OR ∧ Blk wx pr #[.bool false, .int .u32 0, .int .u8 0, .int .i64 0, .int .i64 0, .int .i64 0, .int .i64 0, .int .i64 0, .int .i64 0, .int .i64 0, .int .i64 0, .int .i64 0] OR ∧ Blk wx pb #[] RKT ∧ New w wx)
    case first =>
      obtain ⟨b0, b1, b2, b3, b4, b5, b6, b7, b8, b9, b10, b11⟩ := cells12 bo
      have HBO := Lib.hid (And.intro bo (And.intro br (And.intro hpb n1)))
      have hn0 : (0 : Int) < (n : Int) := by omega
      clear HPY HBJ HXL HFR HV HR HB1 HX0 bo br hpb n1 d5 hLt hB2 hv1
      obtain ⟨o1v, o1ss, o1ki, o1sq, o1pi, o1le, o1src, o1lat, o1sh, o1fr, o1pk, o1by⟩ := o1
      go_region_with ((go_at_call 27; (with_reducible refine Calls.mono (HTM.out _) ?_); rintro en wq ⟨rfl, hnq⟩; have hbq := hnq.blk HBO.out.1.drew (fun h => h); obtain ⟨q0, q1, q2, q3, q4, q5, q6, q7, q8, q9, q10, q11⟩ := cells12 hbq; obtain ⟨f0, f1, f2, f3, f4, f5, f6, f7, f8, f9, f10, f11⟩ := frees12 hbq))
      all_goals
        have R1 := Lib.hid (puts_blk (rcs o S La) [.bool o1v, .int .u32 o1ss, .int .u8 o1ki, .int .i64 o1sq, .int .i64 o1pi, .int .i64 o1le, .int .i64 o1src, .int .i64 S2, .int .i64 L2, .int .i64 o1fr, .int .i64 o1pk, .int .i64 o1by] hbq rfl)
        have R2 := Lib.hid (puts_other hpop [.bool o1v, .int .u32 o1ss, .int .u8 o1ki, .int .i64 o1sq, .int .i64 o1pi, .int .i64 o1le, .int .i64 o1src, .int .i64 S2, .int .i64 L2, .int .i64 o1fr, .int .i64 o1pk, .int .i64 o1by] 0 wq (hnq.blk HBO.out.2.1.drew (fun h => h)))
        have R3 := Lib.hid (puts_other hpob [.bool o1v, .int .u32 o1ss, .int .u8 o1ki, .int .i64 o1sq, .int .i64 o1pi, .int .i64 o1le, .int .i64 o1src, .int .i64 S2, .int .i64 L2, .int .i64 o1fr, .int .i64 o1pk, .int .i64 o1by] 0 wq (hnq.blk (show Blk _ _ _ _ from HBO.out.2.2.1).drew (fun h => h)))
        have R4 := Lib.hid (puts_turns (S := fun _ => False) (a := w) (p := po) (.inr hP.out.1) [.bool o1v, .int .u32 o1ss, .int .u8 o1ki, .int .i64 o1sq, .int .i64 o1pi, .int .i64 o1le, .int .i64 o1src, .int .i64 S2, .int .i64 L2, .int .i64 o1fr, .int .i64 o1pk, .int .i64 o1by] 0 wq (HBO.out.2.2.2.trans ((Turns.of_drew hnq).mono (fun _ _ h => h.elim))))
        clear hbq
        go_wp2_with fail
        go_meet
        case rel => exact ⟨R1.out, R2.out, R3.out, R4.out⟩
    case rest =>
      obtain ⟨bo1, br1, bb1, n2⟩ := hcut
      have k0 : wc.cell? ⟨po, 0, none⟩ = some (.bool o.v) := by rw [← hv1]; exact bo1.cell 0
      have d5 : wc.cell? ⟨g, 5, none⟩ = some (.string x0) := (n2.cell (a := ⟨g, 5, none⟩) hP.out.2.2.2.2 (fun h => h)).trans HC5.out.2
      have HI := Lib.hid (And.intro bo1 (And.intro br1 (And.intro bb1 n2)))
      clear bo1 br1 bb1 n2 bo br hpb n1 d1 HC5 HTM
      go_upto_if 29 with fail
      go_cut [] (fun wx => Blk wx po (rcs o2 S2 L2).toArray OR ∧ Blk wx pr #[.bool false, .int .u32 0, .int .u8 0, .int .i64 0, .int .i64 0, .int .i64 0, .int .i64 0, .int .i64 0, .int .i64 0, .int .i64 0, .int .i64 0, .int .i64 0] OR ∧ Blk wx pb #[] RKT ∧ New w wx)
      case first =>
        clear HPY HBJ HXL HFR HR hLt hB2
        have hB := HB1.out
        clear HB1
        obtain ⟨o1v, o1ss, o1ki, o1sq, o1pi, o1le, o1src, o1lat, o1sh, o1fr, o1pk, o1by⟩ := o1
        by_cases hv : o.v = true
        · have hV := HV.out
          rw [if_pos hv] at hV
          subst hV
          have hv2 : o1v = true := hv1.trans hv
          rw [hv] at k0 ⊢
          obtain ⟨q0, q1, p0, p1, l0', l1', _, _, _, _, _, _⟩ := hB
          dsimp only at p0 p1 l0' l1'
          have t1 : Int.tmod (o1pi + 1) 32768 = (o1pi + 1) % 32768 := Int.tmod_eq_emod_of_nonneg (by omega)
          have t2 : Int.tmod (o1le + 1) 256 = (o1le + 1) % 256 := Int.tmod_eq_emod_of_nonneg (by omega)
          obtain ⟨b0, b1, b2, b3, b4, b5, b6, b7, b8, b9, b10, b11⟩ := cells12 HI.out.1
          have f4 := HI.out.1.free 4
          have HE : Hid (countO ⟨o1v, o1ss, o1ki, o1sq, o1pi, o1le, o1src, o1lat, o1sh, o1fr, o1pk, o1by⟩ x0 = if er x0 = 0 ∧ (par x0).lay ≤ 0 then ⟨o1v, o1ss, o1ki, o1sq, (o1pi + 1) % 32768, (o1le + 1) % 256, o1src, o1lat, o1sh, o1fr, o1pk, o1by⟩ else ⟨o1v, o1ss, o1ki, o1sq, (o1pi + 1) % 32768, o1le, o1src, o1lat, o1sh, o1fr, o1pk, o1by⟩) := Lib.hid rfl
          have HPA := Lib.hid (fun w => rparse_ x0 w (by have := HX0.out; omega))
          have n3 : Turns (· = po) wc (wc.setCell ⟨po, 4, none⟩ (.int .i64 ((o1pi + 1) % 32768))) := (Turns.refl (· = po) wc).setCell (.inl rfl) _
          have H3 := Lib.hid (show Blk (wc.setCell ⟨po, 4, none⟩ (.int .i64 ((o1pi + 1) % 32768))) po (rcs ⟨o1v, o1ss, o1ki, o1sq, (o1pi + 1) % 32768, o1le, o1src, o1lat, o1sh, o1fr, o1pk, o1by⟩ S2 L2).toArray OR ∧ Blk (wc.setCell ⟨po, 4, none⟩ (.int .i64 ((o1pi + 1) % 32768))) pr #[.bool false, .int .u32 0, .int .u8 0, .int .i64 0, .int .i64 0, .int .i64 0, .int .i64 0, .int .i64 0, .int .i64 0, .int .i64 0, .int .i64 0, .int .i64 0] OR ∧ Blk (wc.setCell ⟨po, 4, none⟩ (.int .i64 ((o1pi + 1) % 32768))) pb #[] RKT ∧ New w (wc.setCell ⟨po, 4, none⟩ (.int .i64 ((o1pi + 1) % 32768)))
            from ⟨HI.out.1.set 4 _, n3.blk HI.out.2.1 (fun e => hpop e.symm), n3.blk HI.out.2.2.1 (fun e => hpob e.symm), HI.out.2.2.2.trans (n3.mono (fun _ _ e => .inr (by rw [e]; exact hP.out.1)))⟩)
          have e5 : (wc.setCell ⟨po, 4, none⟩ (.int .i64 ((o1pi + 1) % 32768))).cell? ⟨g, 5, none⟩ = some (.string x0) := (n3.cell (a := ⟨g, 5, none⟩) (World.block_lt_of_cell? _ _ d5) (by have := hP.out; show ¬ g = po; omega)).trans d5
          clear n3 HI
          generalize par x0 = d at *
          generalize er x0 = ee at *
          generalize rst x0 = rs at *
          obtain ⟨nr, st, part, pic, wide, lev, lay, sync, key⟩ := d
          simp only [vp.cells] at HPA
          dsimp only at HE
          have hn0 : (0 : Int) < (n : Int) := by omega
          go_upto_region 7 with fail
          generalize wc.setCell ⟨po, 4, none⟩ (.int .i64 ((o1pi + 1) % 32768)) = w3 at *
          go_wp2_with fail
          refine (HPA.out _).mono ?_
          rintro e w4 ⟨rfl, n4⟩
          go_upto_region 8 with fail
          have n5 : New w3 (w4.alloc (.cells #[.bool nr, .bool st, .int .i64 part, .int .i64 pic, .bool wide, .int .i64 lev, .int .i64 lay, .bool sync, .int .i64 key] vp.DR)) := n4.alloc _
          have hbd : Blk (w4.alloc (.cells #[.bool nr, .bool st, .int .i64 part, .int .i64 pic, .bool wide, .int .i64 lev, .int .i64 lay, .bool sync, .int .i64 key] vp.DR)) w4.heap.size #[.bool nr, .bool st, .int .i64 part, .int .i64 pic, .bool wide, .int .i64 lev, .int .i64 lay, .bool sync, .int .i64 key] vp.DR := Blk.new _ _ _
          clear n4
          generalize w4.alloc (.cells #[.bool nr, .bool st, .int .i64 part, .int .i64 pic, .bool wide, .int .i64 lev, .int .i64 lay, .bool sync, .int .i64 key] vp.DR) = w5 at *
          generalize w4.heap.size = pd at *
          have k6 : w5.cell? ⟨pd, 6, none⟩ = some (.int .i64 lay) := hbd.cell 6
          have bo5 := n5.blk H3.out.1 (fun h => h)
          have H5 := Lib.hid (And.intro (n5.blk H3.out.2.1 (fun h => h)) (And.intro (n5.blk H3.out.2.2.1 (fun h => h)) (H3.out.2.2.2.trans (n5.mono (fun _ _ h => h.elim)))))
          have c5 : w5.cell? ⟨po, 5, none⟩ = some (.int .i64 o1le) := bo5.cell 5
          have f5 := bo5.free 5
          have n6 : Turns (· = po) w5 (w5.setCell ⟨po, 5, none⟩ (.int .i64 ((o1le + 1) % 256))) := (Turns.refl (· = po) w5).setCell (.inl rfl) _
          have H6 := Lib.hid (And.intro (bo5.set 5 (.int .i64 ((o1le + 1) % 256))) (And.intro (n6.blk H5.out.1 (fun e => hpop e.symm)) (And.intro (n6.blk H5.out.2.1 (fun e => hpob e.symm)) (H5.out.2.2.trans (n6.mono (fun _ _ e => .inr (by rw [e]; exact hP.out.1)))))))
          have HB5 := Lib.hid bo5
          clear hbd n5 bo5 n6 H3 e5 b0 b1 b2 b3 b4 b5 b6 b7 b8 b9 b10 b11 f4
          by_cases he : ee = 0
          · subst he
            by_cases hl2 : lay ≤ 0
            · have hE := HE.out
              rw [if_pos ⟨rfl, hl2⟩] at hE
              have HE2 := Lib.hid hE
              clear hE HE
              have hl3 : lay < 1 := by omega
              go_wp2_with fail
              go_meet
              case rel => rw [HE2.out]; exact ⟨H6.out.1, H6.out.2.1, H6.out.2.2.1, H6.out.2.2.2⟩
            · have hE := HE.out
              rw [if_neg (fun h => hl2 h.2)] at hE
              have HE2 := Lib.hid hE
              clear hE HE
              have hl3 : ¬ lay < 1 := by omega
              go_wp2_with fail
              go_meet
              case rel => rw [HE2.out]; exact ⟨HB5.out, H5.out.1, H5.out.2.1, H5.out.2.2⟩
          · have hE := HE.out
            rw [if_neg (fun h => he h.1)] at hE
            have HE2 := Lib.hid hE
            clear hE HE
            have he' : (ee == 0) = false := beq_eq_false_iff_ne.2 he
            go_wp2_with fail
            go_meet
            case rel => rw [HE2.out]; exact ⟨HB5.out, H5.out.1, H5.out.2.1, H5.out.2.2⟩
        · have hV := HV.out
          rw [if_neg hv] at hV
          subst hV
          have hv' : o.v = false := by simpa using hv
          rw [hv'] at k0 ⊢
          go_wp2_with fail
          go_meet
          case rel => exact HI.out
      case rest =>
        obtain ⟨bo2, br2, bb2, n2⟩ := hcut
        clear HI d5 k0 HV HB1 HX0 hLn hne0
        have HLP0 : Hid (Rp w wc po pr o2 t S2 L2 L 0 (.slice (some ⟨pb, 0, none⟩) 0 0)) := Lib.hid ⟨bo2, br2, ⟨rfl, .inr ⟨pb, 0, #[], rfl, Nat.zero_le _, bb2, Nat.le_refl _, Nat.zero_le _, rfl, rfl⟩⟩, (fun g' hg' => by (have h1 : pb = g' := by simpa [Value.ownBlock] using hg'); (have := hP.out); omega), n2⟩
        clear bo2 br2 bb2 n2
        go_wp2_with fail
        go_loopw [8, 58] (fun v i wr => ∃ k : Nat, k ≤ n ∧ i = .int .i64 k ∧ Rp w wr po pr o2 t S2 L2 L k v) (fun _ i _ => n - (intOf i).toNat)
        case atStart => exact ⟨0, Nat.zero_le _, rfl, HLP0.out⟩
        case round =>
          obtain ⟨j, hj, rfl, hlp⟩ := hrel
          clear HLP0
          by_cases hlt : j < n
          · obtain ⟨u, hu, htk⟩ := take_next L j (by rw [HNN.out]; exact hlt)
            rcases HR.out _ hlp.n with hxx | ⟨g', hg', hgl, hc'⟩
            · exfalso
              have h1 := HNN.out
              rw [hxx] at h1
              simp at h1
              omega
            injection hg' with hg'
            injection hg' with hg' _ _
            subst hg'
            have hcu := hc' j u hu
            clear hc'
            have e0 : wr.cell? ⟨g, j * 7, none⟩ = some (.int .i64 u.a) := hcu 0 _ rfl
            have e1 : wr.cell? ⟨g, j * 7 + 1, none⟩ = some (.int .i64 u.t) := hcu 1 _ rfl
            have e2 : wr.cell? ⟨g, j * 7 + 2, none⟩ = some (.bool u.mr) := hcu 2 _ rfl
            have e3 : wr.cell? ⟨g, j * 7 + 3, none⟩ = some (.bool u.st) := hcu 3 _ rfl
            have e4 : wr.cell? ⟨g, j * 7 + 4, none⟩ = some (.bool u.ky) := hcu 4 _ rfl
            have e5 : wr.cell? ⟨g, j * 7 + 5, none⟩ = some (.string u.x) := hcu 5 _ rfl
            have e6 : wr.cell? ⟨g, j * 7 + 6, none⟩ = some (.int .i64 u.tick) := hcu 6 _ rfl
            clear hcu
            have hok := HBJ.out j (by omega)
            have HP := Lib.hid (HPY.out j hlt u hu)
            have hux := HXL.out j u hu
            have hps := pay_size (packsO o2 (L.take j)) u.x
            have hnext : packsO o2 (L.take (j + 1)) = packO (packsO o2 (L.take j)) u := by rw [htk, packsO_app]; rfl
            have hnextK : packs o2 t (L.take (j + 1)) = packs o2 t (L.take j) ++ [packK (packsO o2 (L.take j)) u t] := by rw [htk, packs_app]; rfl
            have hlenK : (packs o2 t (L.take j)).length = j := by rw [packs_len, List.length_take, HNN.out]; omega
            have hkk : packK (packsO o2 (L.take j)) u t = ⟨u.mr, (packsO o2 (L.take j)).kind, (packsO o2 (L.take j)).seq, t, (packsO o2 (L.take j)).ssrc, pay (packsO o2 (L.take j)) u.x⟩ := rfl
            have hoo : packO (packsO o2 (L.take j)) u = { packsO o2 (L.take j) with seq := ((packsO o2 (L.take j)).seq + 1) % 65536, pk := (packsO o2 (L.take j)).pk + 1, by_ := (packsO o2 (L.take j)).by_ + (pay (packsO o2 (L.take j)) u.x).size } := by unfold packO; rw [w16]
            rw [hkk] at hnextK
            rw [hoo] at hnext
            have HX := Lib.hid (And.intro hnext (And.intro hnextK hlenK))
            obtain ⟨bo, br, hr, hb, hnw⟩ := hlp
            have HRW := Lib.hid hr
            have HB := Lib.hid (And.intro hb (And.intro hnw br))
            obtain ⟨hq0, hq1, _, _, _, _, _, _, hk0, hk1, hb0, hb1⟩ := hok
            clear hr hb hnw br hnext hnextK hlenK htk hkk hoo hu
            have kn : (j : Int) < (n : Int) := by omega
            have k0 : (0 : Int) ≤ (j : Int) := by omega
            generalize packsO o2 (L.take j) = q at *
            generalize packs o2 t (L.take j) = pks at *
            generalize pay q u.x = y at *
            obtain ⟨ua, ut, um, us, uk, ux, utk⟩ := u
            dsimp only at *
            go_upto_region 13 with fail
            have bu : Blk (wr.alloc (.cells #[.int .i64 ua, .int .i64 ut, .bool um, .bool us, .bool uk, .string ux, .int .i64 utk] UR)) wr.heap.size #[.int .i64 ua, .int .i64 ut, .bool um, .bool us, .bool uk, .string ux, .int .i64 utk] UR := Blk.new _ _ _
            have bo5 := bo.alloc (.cells #[.int .i64 ua, .int .i64 ut, .bool um, .bool us, .bool uk, .string ux, .int .i64 utk] UR)
            have n5 : New wr (wr.alloc (.cells #[.int .i64 ua, .int .i64 ut, .bool um, .bool us, .bool uk, .string ux, .int .i64 utk] UR)) := (Turns.refl _ _).alloc _
            clear e0 e1 e2 e3 e4 e5 e6
            have hwp : po < wr.heap.size := bo.lt
            generalize wr.alloc (.cells #[.int .i64 ua, .int .i64 ut, .bool um, .bool us, .bool uk, .string ux, .int .i64 utk] UR) = w5 at *
            generalize hpue : wr.heap.size = pu at *
            obtain ⟨b0, b1, b2, b3, b4, b5, b6, b7, b8, b9, b10, b11⟩ := cells12 bo5
            have hh : HeldR w5 w5 po pu (.bool q.v) (.int .u32 q.ssrc) (.int .u8 q.kind) (.int .i64 q.seq) (.int .i64 q.pic) (.int .i64 q.lev) (.int .i64 q.src) (.int .i64 S2) (.int .i64 L2) (.int .i64 q.fr) (.int .i64 q.pk) (.int .i64 q.by_) (.bool um) (.string ux) :=
              ⟨Turns.refl _ _, bo5.lt, bu.lt, b0, b1, b2, b3, b4, b5, b6, b7, b8, b9, b10, b11, bu.cell 2, bu.cell 5⟩
            have HH := Lib.hid hh
            have HBO5 := Lib.hid bo5
            have HN5 := Lib.hid n5
            have s1 : IntKind.u16.wrap q.seq = q.seq := by rw [w16]; omega
            have s2 : IntKind.u32.wrap L2 = t := by rw [← hLt]; simp [IntKind.wrap, IntKind.bits, IntKind.signed]
            clear b0 b1 b2 b3 b4 b5 b6 b7 b8 b9 b10 b11 bo bo5 n5 bu hpue
            go_cut [14] (fun v7 wx => ∃ pp, v7 = .pointer (some ⟨pp, 0, none⟩) ∧ New w5 wx ∧ w5.heap.size ≤ pp ∧ Blk wx pp [.bool um, .int .u8 q.kind, .int .u16 q.seq, .int .u32 t, .int .u32 q.ssrc, .slice none 0 0, .bool false, .int .u16 0, .string ⟨#[]⟩, .string y, .int .i64 0].toArray RKT)
            case first =>
              clear HX HRW HB HBO5 HN5 HBJ HXL HPY HFR HR
              go_region_held3 (fun w' => New w5 w' ∧ po < w'.heap.size ∧ pu < w'.heap.size ∧ w'.cell? ⟨po, 0, none⟩ = some (.bool q.v) ∧ w'.cell? ⟨po, 1, none⟩ = some (.int .u32 q.ssrc) ∧ w'.cell? ⟨po, 2, none⟩ = some (.int .u8 q.kind) ∧ w'.cell? ⟨po, 3, none⟩ = some (.int .i64 q.seq) ∧ w'.cell? ⟨po, 4, none⟩ = some (.int .i64 q.pic) ∧ w'.cell? ⟨po, 5, none⟩ = some (.int .i64 q.lev) ∧ w'.cell? ⟨po, 6, none⟩ = some (.int .i64 q.src) ∧ w'.cell? ⟨po, 7, none⟩ = some (.int .i64 S2) ∧ w'.cell? ⟨po, 8, none⟩ = some (.int .i64 L2) ∧ w'.cell? ⟨po, 9, none⟩ = some (.int .i64 q.fr) ∧ w'.cell? ⟨po, 10, none⟩ = some (.int .i64 q.pk) ∧ w'.cell? ⟨po, 11, none⟩ = some (.int .i64 q.by_) ∧ w'.cell? ⟨pu, 2, none⟩ = some (.bool um) ∧ w'.cell? ⟨pu, 5, none⟩ = some (.string ux))
                (first
                  | (with_reducible assumption)
                  | ((with_reducible refine heldR_drew ?_); with_reducible assumption)
                  | ((with_reducible refine heldR_alloc _ ?_); with_reducible assumption)
                  | ((with_reducible refine heldR_drew (heldR_alloc _ ?_)); with_reducible assumption)
                  | ((with_reducible apply heldR_new hnq); with_reducible assumption)
                  | ((with_reducible refine heldR_new ?_ HH.out); (repeat (first | (with_reducible refine Turns.alloc ?_ _) | (with_reducible refine Turns.drew ?_) | (with_reducible refine Turns.setCell ?_ (.inr (Nat.le_refl _)) _))); (with_reducible apply new_pre hnq); (repeat (first | (with_reducible refine Turns.alloc ?_ _) | (with_reducible refine Turns.drew ?_))); exact Turns.refl _ _))
                ((go_at_call 29; (with_reducible refine Calls.mono (HP.out _) ?_); rintro en wq ⟨rfl, hnq⟩; (first | (have hpy := made_rk hnq rfl; obtain ⟨y0, y1, y2, y3, y4, y5, y6, y7, y8, y9, y10⟩ := cells11 hpy; obtain ⟨g0, g1, g2, g3, g4, g5, g6, g7, g8, g9, g10⟩ := frees11 hpy) | skip)))
              all_goals first
                | (have hbq := made_rk hnq rfl
                   have hn0 : New w5 wq := new_pre hnq (by (repeat (first | (with_reducible refine Turns.alloc ?_ _) | (with_reducible refine Turns.drew ?_))); exact Turns.refl _ _)
                   have HBQ := Lib.hid hbq
                   clear hbq
                   go_wp2_with fail
                   go_meet
                   case rel => exact ⟨_, rfl, puts_turns (.inr (Nat.le_refl _)) [.bool um, .int .u8 q.kind, .int .u16 q.seq, .int .u32 t, .int .u32 q.ssrc, .slice none 0 0, .bool false, .int .u16 0, .string ⟨#[]⟩, .string y, .int .i64 0] 0 _ hn0, Nat.le_refl _, puts_blk zeroK [.bool um, .int .u8 q.kind, .int .u16 q.seq, .int .u32 t, .int .u32 q.ssrc, .slice none 0 0, .bool false, .int .u16 0, .string ⟨#[]⟩, .string y, .int .i64 0] HBQ.out rfl⟩)
                | (go_wp2_with fail
                   go_meet
                   case rel => exact ⟨_, rfl, (Turns.of_drew hnq).alloc _, hnq.size, Blk.new _ _ _⟩)
            case rest =>
              obtain ⟨pp, rfl, n6, hpp, hbp⟩ := hcut
              obtain ⟨y0, y1, y2, y3, y4, y5, y6, y7, y8, y9, y10⟩ := cells11 hbp
              have nwc : New wr wc := HN5.out.trans (n6.mono (fun _ _ h => h.elim))
              have hown7 : Owns KE RKT (wc.alloc (.cells [.bool um, .int .u8 q.kind, .int .u16 q.seq, .int .u32 t, .int .u32 q.ssrc, .slice none 0 0, .bool false, .int .u16 0, .string ⟨#[]⟩, .string y, .int .i64 0].toArray RKT)) u8 pks := HRW.out.turns (nwc.alloc _) (fun _ _ h => h)
              have hbl : (wc.alloc (.cells (KE.cs ⟨um, q.kind, q.seq, t, q.ssrc, y⟩).toArray RKT)).heap[wc.heap.size]? = some (.cells (KE.cs ⟨um, q.kind, q.seq, t, q.ssrc, y⟩).toArray RKT (0, 0)) := heap_alloc_new wc _
              have HOW := Lib.hid hown7
              have HBL := Lib.hid hbl
              have hp1 : pks.length + 1 ≤ 1048576 := by rw [HX.out.2.2]; omega
              have nv : ∀ b, b < w5.heap.size → b ≤ pr ∨ wr.heap.size ≤ b → ¬ some b = u8.ownBlock := fun b hb1 hb2 e => by
                have h1 := HB.out.1 b e.symm
                have h2 := HRW.out.lt b e.symm
                omega
              have hpv : ¬ some pp = u8.ownBlock := fun e => by have h2 := HRW.out.lt pp e.symm; have := HN5.out.size; omega
              have hov : ¬ some po = u8.ownBlock := fun e => by have h1 := HB.out.1 po e.symm; have := hP.out; omega
              have hrv : ¬ some pr = u8.ownBlock := fun e => by have h1 := HB.out.1 pr e.symm; omega
              have hppo : pp ≠ po := by have := HBO5.out.lt; omega
              have hpop' : po ≠ pp := fun e => hppo e.symm
              have Bo7 := Lib.hid ((n6.blk HBO5.out (fun h => h)).alloc (.cells [.bool um, .int .u8 q.kind, .int .u16 q.seq, .int .u32 t, .int .u32 q.ssrc, .slice none 0 0, .bool false, .int .u16 0, .string ⟨#[]⟩, .string y, .int .i64 0].toArray RKT))
              have Bp7 := Lib.hid (hbp.alloc (.cells [.bool um, .int .u8 q.kind, .int .u16 q.seq, .int .u32 t, .int .u32 q.ssrc, .slice none 0 0, .bool false, .int .u16 0, .string ⟨#[]⟩, .string y, .int .i64 0].toArray RKT))
              have Br7 := Lib.hid ((nwc.blk HB.out.2.2 (fun h => h)).alloc (.cells [.bool um, .int .u8 q.kind, .int .u16 q.seq, .int .u32 t, .int .u32 q.ssrc, .slice none 0 0, .bool false, .int .u16 0, .string ⟨#[]⟩, .string y, .int .i64 0].toArray RKT))
              have N7 := Lib.hid ((HB.out.2.1.trans (nwc.mono (fun _ _ h => h.elim))).alloc (.cells [.bool um, .int .u8 q.kind, .int .u16 q.seq, .int .u32 t, .int .u32 q.ssrc, .slice none 0 0, .bool false, .int .u16 0, .string ⟨#[]⟩, .string y, .int .i64 0].toArray RKT))
              clear hown7 hbl nv nwc n6 hbp hh HH HP
              go_wp2_with (at_builtin; refine wpList_append_one (E := KE) Try.underlying42 infoRK rfl (by decide) (by decide) rfl _ _ rfl u8 pks ⟨um, q.kind, q.seq, t, q.ssrc, y⟩ rfl HOW.out _ rfl HBL.out hp1 ?_)
              intro v' w8 hown hgrow hat
              have h8 := Turns.of_grown hgrow
              have bo8 := h8.blk Bo7.out hov
              have bp8 := h8.blk Bp7.out hpv
              have br8 := h8.blk Br7.out hrv
              have N8 : New w w8 := N7.out.trans (h8.mono (fun b _ hb => .inr (by have h1 := HB.out.1 b hb.symm; have := hP.out; omega)))
              obtain ⟨z0, z1, z2, z3, z4, z5, z6, z7, z8, z9, z10, z11⟩ := cells12 bo8
              obtain ⟨f0, f1, f2, f3, f4, f5, f6, f7, f8, f9, f10, f11⟩ := frees12 bo8
              have x9 : w8.cell? ⟨pp, 9, none⟩ = some (.string y) := bp8.cell 9
              have t1 : Int.tmod (q.seq + 1) 65536 = (q.seq + 1) % 65536 := Int.tmod_eq_emod_of_nonneg (by omega)
              have hb' : ∀ g, v'.ownBlock = some g → pr < g := fun g hg => by
                rcases hat with e | e
                · exact HB.out.1 g (e ▸ hg)
                · rw [e] at hg; injection hg with hg; have := Br7.out.lt; rw [World.size_alloc] at this; omega
              have hn9 : Turns (· = po) w8 (((w8.setCell ⟨po, 3, none⟩ (.int .i64 ((q.seq + 1) % 65536))).setCell ⟨po, 10, none⟩ (.int .i64 (q.pk + 1))).setCell ⟨po, 11, none⟩ (.int .i64 (q.by_ + (y.size : Int)))) := (((Turns.refl (· = po) w8).setCell (.inl rfl) _).setCell (.inl rfl) _).setCell (.inl rfl) _
              have RP : Hid (Rp w (((w8.setCell ⟨po, 3, none⟩ (.int .i64 ((q.seq + 1) % 65536))).setCell ⟨po, 10, none⟩ (.int .i64 (q.pk + 1))).setCell ⟨po, 11, none⟩ (.int .i64 (q.by_ + (y.size : Int)))) po pr o2 t S2 L2 L (j + 1) v') := Lib.hid ⟨by rw [HX.out.1]; exact ((bo8.set 3 _).set 10 _).set 11 _, hn9.blk br8 (fun e => hpop e.symm), by rw [HX.out.2.1]; exact hown.turns hn9 (fun g hg e => by have := hb' g hg; have := hP.out; omega), hb', N8.trans (hn9.mono (fun _ _ e => .inr (by rw [e]; exact hP.out.1)))⟩
              clear hown hgrow hat h8 bo8 bp8 br8 N8 hb' hn9 HOW HBL Bo7 Bp7 Br7 N7 y0 y1 y2 y3 y4 y5 y6 y7 y8 y9 y10 HX HRW HB HBO5 HN5
              go_wp2
              go_roundw
              case rel => exact ⟨j + 1, by omega, by go_num, RP.out⟩
              case measure => simp [intOf]; omega
          · have hjn : j = n := by omega
            subst hjn
            have htake : L.take j = L := by rw [← HNN.out]; exact List.take_length
            have hfe := HFR.out j
            obtain ⟨bo, br, hr, hb, hnw⟩ := hlp
            rw [htake] at bo hr hfe
            have hok := HBJ.out j (Nat.le_refl _)
            rw [htake] at hok
            clear HBJ HXL HPY HFR HR
            generalize packsO o2 L = q at *
            generalize packs o2 t L = ks at *
            have hn9 : Turns (· = po) wr (wr.setCell ⟨po, 9, none⟩ (.int .i64 (o.fr + 1))) := (Turns.refl (· = po) wr).setCell (.inl rfl) _
            have bo9 : Blk (wr.setCell ⟨po, 9, none⟩ (.int .i64 (o.fr + 1))) po (rcs { q with fr := o.fr + 1 } S2 L2).toArray OR := bo.set 9 _
            have br9 := hn9.blk br (fun e => hpop e.symm)
            have N9 : New w (wr.setCell ⟨po, 9, none⟩ (.int .i64 (o.fr + 1))) := hnw.trans (hn9.mono (fun _ _ e => .inr (by rw [e]; exact hP.out.1)))
            have r9 := hr.turns hn9 (fun g hg e => by have := hb g hg; have := hP.out; omega)
            have c9 : wr.cell? ⟨po, 9, none⟩ = some (.int .i64 o.fr) := by rw [← hfe]; exact bo.cell 9
            obtain ⟨hfb0, hfb1⟩ := hfb
            have f9 := bo.free 9
            have HB := Lib.hid hb
            have R9 := Lib.hid r9
            have HN9 := Lib.hid N9
            clear bo br hr hb hnw hn9 r9 N9
            go_upto_region 20 with fail
            generalize wr.setCell ⟨po, 9, none⟩ (.int .i64 (o.fr + 1)) = w9 at *
            clear c9 f9
            obtain ⟨z0, z1, z2, z3, z4, z5, z6, z7, z8, z9, z10, z11⟩ := cells12 bo9
            obtain ⟨r0, r1, r2, r3, r4, r5, r6, r7, r8, r9, r10, r11⟩ := cells12 br9
            obtain ⟨f0, f1, f2, f3, f4, f5, f6, f7, f8, f9, f10, f11⟩ := frees12 br9
            have hp10 : Blk (puts w9 pr 0 (rcs { q with fr := o.fr + 1 } S2 L2)) pr (rcs { q with fr := o.fr + 1 } S2 L2).toArray OR := puts_blk _ _ br9 rfl
            have ht10 : Turns (· = pr) w9 (puts w9 pr 0 (rcs { q with fr := o.fr + 1 } S2 L2)) := puts_turns (S := (· = pr)) (a := w9) (p := pr) (.inl rfl) _ 0 w9 (Turns.refl _ _)
            have H10 := Lib.hid (show Owns KE RKT (puts w9 pr 0 (rcs { q with fr := o.fr + 1 } S2 L2)) u8 ks ∧ New w (puts w9 pr 0 (rcs { q with fr := o.fr + 1 } S2 L2)) from ⟨R9.out.turns ht10 (fun g hg e => by have := HB.out g hg; omega), HN9.out.trans (ht10.mono (fun _ _ e => .inr (by rw [e]; have := hP.out; omega)))⟩)
            clear ht10 bo9 br9
            go_wp2_with fail
            refine (show bodyPost _ _ _ _ _ (puts w9 pr 0 (rcs { q with fr := o.fr + 1 } S2 L2)) from ?_)
            generalize puts w9 pr 0 (rcs { q with fr := o.fr + 1 } S2 L2) = w10 at *
            obtain ⟨x0', x1', x2', x3', x4', x5', x6', x7', x8', x9', x10', x11'⟩ := cells12 hp10
            refine bodyPost_ret (v := .tuple #[.agg (rcs { q with fr := o.fr + 1 } S2 L2).toArray, u8]) (by simp [results, Try.results12, go_sem, x0', x1', x2', x3', x4', x5', x6', x7', x8', x9', x10', x11']) rfl ?_
            exact ⟨_, rfl, H10.out.1, H10.out.2, fun g hg => by have := HB.out g hg; have := hP.out; omega⟩
end Go.Proofs.Ytijpgkkhjjpjoaa.rew
