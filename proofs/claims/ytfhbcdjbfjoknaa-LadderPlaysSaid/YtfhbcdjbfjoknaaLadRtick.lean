/-
  The reference of layer 23: Tick.
-/
import Derived.Test.YtfhbcdjbfjoknaaLadTail2
namespace Go.Proofs.Ytfhbcdjbfjoknaa.lad
open Go.RowKit mem
open ints (IE IT ST infoI)
set_option linter.unusedVariables false

/-- the reference's ladder -/
structure RQ where
  d : Int
  u : Int
  sp : Int
  N : List Int
  at' : Nat
  most : Int
  mv : Int
  R : List Int
structure RQ.ok (q : RQ) : Prop where
  at_ : q.at' < q.N.length
  mo : q.most < q.N.length
  nl : q.N.length ≤ 3
  nb : ∀ x ∈ q.N, 0 ≤ x ∧ x ≤ 1099511627776
  s0 : 0 ≤ q.sp
  s1 : q.sp ≤ 100
  d1 : 1 ≤ q.d
  u1 : 1 ≤ q.u
  rl : q.R.length ≤ 900
  m0 : 0 ≤ q.mv
  m1 : q.mv ≤ 900
def RQ.down (q : RQ) (r : Int) : Nat := tailF (rbadB q.N q.at') (q.R ++ [r])
def RQ.ups (q : RQ) (r : Int) : Nat := tailF (rgoodB q.N q.sp q.most q.at') (q.R ++ [r])
def RQ.tickB (q : RQ) (r : Int) : Bool := decide (q.d ≤ q.down r) || decide (q.u ≤ q.ups r)
def RQ.tick (q : RQ) (r : Int) : RQ :=
  if q.d ≤ q.down r then { q with at' := q.at' - 1, mv := q.mv + 1, R := [] }
  else if q.u ≤ q.ups r then { q with at' := q.at' + 1, mv := q.mv + 1, R := [] }
  else { q with R := q.R ++ [r] }
theorem RQ.pos {q : RQ} (h : q.ok) {r : Int} (hd : q.d ≤ q.down r) : 0 < q.at' := by
  have h1 := h.d1
  unfold RQ.down at hd
  rw [tailF_push] at hd
  by_cases hb : rbadB q.N q.at' r = true
  · unfold rbadB at hb
    simp at hb
    exact hb.1
  · rw [if_neg hb] at hd
    omega
abbrev q8 (q : RQ) (ao : Option Addr) (cc : Nat) (rv : Value) : Array Value := rl q.d q.u q.sp (.slice ao q.N.length cc) q.at' q.most q.mv rv
/-- what the reference hands back -/
structure TPost (w w' : World) (rv : Value) (R : List Int) : Prop where
  sub : Sub IE 0 w' rv R
  src : ∀ g, rv.ownBlock = some g → w.heap.size ≤ g
  n : New w w'

theorem fin8 {w w3 : World} {pr : Nat} {l vs : List Value} (hw : w.heap.size ≤ pr) (n : New w w3) (hr : Blk w3 pr l.toArray RL) (hl : vs.length = l.length) :
    Blk (puts w3 pr 0 vs) pr vs.toArray RL ∧ New w (puts w3 pr 0 vs) ∧ Turns (· = pr) w3 (puts w3 pr 0 vs) := by
  have ht := puts_turns (S := (· = pr)) (p := pr) (.inl rfl) vs 0 _ (Turns.refl (· = pr) w3)
  exact ⟨puts_blk _ _ hr hl, n.trans (ht.mono (fun i _ hi => .inr (by omega))), ht⟩
theorem frees8 {w : World} {p : Nat} {cs : Array Value} {T : TypeId} (h : Blk w p cs T) : w.frozen? ⟨p, 0, none⟩ = false ∧ w.frozen? ⟨p, 1, none⟩ = false ∧ w.frozen? ⟨p, 2, none⟩ = false ∧ w.frozen? ⟨p, 3, none⟩ = false ∧ w.frozen? ⟨p, 4, none⟩ = false ∧ w.frozen? ⟨p, 5, none⟩ = false ∧ w.frozen? ⟨p, 6, none⟩ = false ∧ w.frozen? ⟨p, 7, none⟩ = false := ⟨h.free 0, h.free 1, h.free 2, h.free 3, h.free 4, h.free 5, h.free 6, h.free 7⟩

set_option maxRecDepth 10000 in
set_option maxHeartbeats 4000000 in
theorem rtick (q : RQ) (ao : Option Addr) (cc : Nat) (ra : Option Addr) (rn rc : Nat) (r : Int) (w : World) (hv : Vw w ao q.N) (ho : q.ok) (hrn : q.R.length = rn) (hr : Sub IE 0 w (.slice ra rn rc) q.R) :
    Calls Try.prog 13 #[.agg (q8 q ao cc (.slice ra rn rc)), .int .i64 r] w fun e w' => ∃ ra' rc', e = .returned (.tuple #[.agg (q8 (q.tick r) ao cc (.slice ra' (q.tick r).R.length rc')), .bool (q.tickB r)]) ∧ TPost w w' (.slice ra' (q.tick r).R.length rc') (q.tick r).R := by
  have hdn := RQ.pos ho (r := r)
  have HTB : Hid (q.tickB r = (decide (q.d ≤ q.down r) || decide (q.u ≤ q.ups r)) ∧ q.tick r = if q.d ≤ q.down r then { q with at' := q.at' - 1, mv := q.mv + 1, R := [] } else if q.u ≤ q.ups r then { q with at' := q.at' + 1, mv := q.mv + 1, R := [] } else { q with R := q.R ++ [r] }) := Lib.hid ⟨rfl, rfl⟩
  have HDN : Hid (q.down r = tailF (rbadB q.N q.at') (q.R ++ [r]) ∧ q.ups r = tailF (rgoodB q.N q.sp q.most q.at') (q.R ++ [r])) := Lib.hid ⟨rfl, rfl⟩
  obtain ⟨d, u, sp, N, at', most, mv, R⟩ := q
  obtain ⟨o1, o2, o3, o4, o5, o6, o7, o8, o9, o10, o11⟩ := ho
  dsimp only [q8] at *
  generalize RQ.down ⟨d, u, sp, N, at', most, mv, R⟩ r = dn at *
  generalize RQ.ups ⟨d, u, sp, N, at', most, mv, R⟩ r = up at *
  have HTT := Lib.hid (fun W (ra' : Option Addr) (rc' : Nat) (n : New w W) (h : Sub IE 0 W (.slice ra' (rn + 1) rc') (R ++ [r])) => rtail_false d u sp most mv ao cc at' N (R ++ [r]) ra' rc' W (hv.later n) o1 o2 (by omega) o4 o5 o6 (rn + 1) (by simp [hrn]) h (by omega))
  have HTU := Lib.hid (fun W (ra' : Option Addr) (rc' : Nat) (n : New w W) (h : Sub IE 0 W (.slice ra' (rn + 1) rc') (R ++ [r])) => rtail_true d u sp most mv ao cc at' N (R ++ [r]) ra' rc' W (hv.later n) o1 o2 (by omega) o4 o5 o6 (rn + 1) (by simp [hrn]) h (by omega))
  rw [← HDN.out.1] at HTT
  rw [← HDN.out.2] at HTU
  have HSV := Lib.hid hr
  have HRN := Lib.hid hrn
  have HPO := Lib.hid hdn
  have o9' : rn ≤ 900 := by omega
  clear hdn hr hv HDN o4 o5 o6 o9 hrn
  have hw0 : New w ((w.alloc (.cells (rl d u sp (.slice ao N.length cc) at' most mv (.slice ra rn rc)) RL)).alloc (.cells #[.int .i64 0, .int .i64 0, .int .i64 0, .slice none 0 0, .int .i64 0, .int .i64 0, .int .i64 0, .slice none 0 0] RL)) := ((Turns.refl _ _).alloc _).alloc _
  have e1 : (w.alloc (.cells (rl d u sp (.slice ao N.length cc) at' most mv (.slice ra rn rc)) RL)).heap.size = w.heap.size + 1 := by simp
  have hb1 : Blk ((w.alloc (.cells (rl d u sp (.slice ao N.length cc) at' most mv (.slice ra rn rc)) RL)).alloc (.cells #[.int .i64 0, .int .i64 0, .int .i64 0, .slice none 0 0, .int .i64 0, .int .i64 0, .int .i64 0, .slice none 0 0] RL)) w.heap.size (rl d u sp (.slice ao N.length cc) at' most mv (.slice ra rn rc)) RL := (Blk.new _ _ _).alloc _
  have hr1 : Blk ((w.alloc (.cells (rl d u sp (.slice ao N.length cc) at' most mv (.slice ra rn rc)) RL)).alloc (.cells #[.int .i64 0, .int .i64 0, .int .i64 0, .slice none 0 0, .int .i64 0, .int .i64 0, .int .i64 0, .slice none 0 0] RL)) (w.heap.size + 1) #[.int .i64 0, .int .i64 0, .int .i64 0, .slice none 0 0, .int .i64 0, .int .i64 0, .int .i64 0, .slice none 0 0] RL := by
    have := Blk.new (w.alloc (.cells (rl d u sp (.slice ao N.length cc) at' most mv (.slice ra rn rc)) RL)) #[.int .i64 0, .int .i64 0, .int .i64 0, .slice none 0 0, .int .i64 0, .int .i64 0, .int .i64 0, .slice none 0 0] RL
    rw [e1] at this; exact this
  have HW1 := Lib.hid hw0
  have HB1 := Lib.hid hb1
  have HR1 := Lib.hid hr1
  clear hw0 e1 hb1 hr1
  go_enter Try.func13, Try.ntmps13
  go_upto_region 1 with fail
  refine (show Code.wp _ _ _ _ ((w.alloc (.cells (rl d u sp (.slice ao N.length cc) at' most mv (.slice ra rn rc)) RL)).alloc (.cells #[.int .i64 0, .int .i64 0, .int .i64 0, .slice none 0 0, .int .i64 0, .int .i64 0, .int .i64 0, .slice none 0 0] RL)) from ?_)
  generalize ((w.alloc (.cells (rl d u sp (.slice ao N.length cc) at' most mv (.slice ra rn rc)) RL)).alloc (.cells #[.int .i64 0, .int .i64 0, .int .i64 0, .slice none 0 0, .int .i64 0, .int .i64 0, .int .i64 0, .slice none 0 0] RL)) = w3 at *
  obtain ⟨pb, hpb⟩ : ∃ pb, pb = w.heap.size := ⟨_, rfl⟩
  have HPB : Hid (w.heap.size ≤ pb ∧ w.heap.size ≤ pb + 1) := Lib.hid (by omega)
  rw [← hpb] at HB1 HR1 ⊢
  clear hpb
  obtain ⟨pr, hpr⟩ : ∃ pr, pr = pb + 1 := ⟨_, rfl⟩
  have HNE : Hid (pb ≠ pr) := Lib.hid (by omega)
  rw [← hpr] at HR1 HPB ⊢
  have HPR : Hid (w.heap.size ≤ pr) := Lib.hid HPB.out.2
  clear hpr
  obtain ⟨c0, c1, c2, c3, c4, c5, c6, c7⟩ := eight HB1.out
  have hpl := HB1.out.lt
  have hprl := HR1.out.lt
  have HO1 : Hid (Owns IE IT (w3.alloc (.cells #[] IT)) (.slice (some ⟨w3.heap.size, 0, none⟩) 0 0) []) := Lib.hid (ints.Owns.made0 (Blk.new _ _ _))
  have HS1 : Hid (Sub IE 0 (w3.alloc (.cells #[] IT)) (.slice ra rn rc) R) := Lib.hid (Sub.turns (Sub.turns HSV.out HW1.out (fun _ _ h => h)) ((Turns.refl (fun _ => False) _).alloc _) (fun _ _ h => h))
  have HL1 : Hid (([] : List Int).length + R.length ≤ 1048576) := Lib.hid (by simp [HRN.out]; omega)
  go_wp2_with (at_builtin; refine wpList_append_sub (E := IE) Try.underlying22 infoI rfl (by decide) (by decide) rfl _ _ rfl _ [] R rfl HO1.out _ rfl 0 HS1.out HL1.out ?_)
  intro v8 w8 hown hgrow hat
  have G8 := Lib.hid (ints.madeC (w2 := w3) ((Turns.refl (fun _ => False) w3).alloc (.cells #[] IT)) (Nat.le_refl _) hown hgrow (by rw [World.size_alloc]; exact hat))
  obtain ⟨a8, c8, hv8, _⟩ := G8.out.own.form
  rw [HRN.out] at hv8
  subst hv8
  have hb8 := G8.out.n.blk HB1.out (fun h => h)
  have HPL : Hid (pb < w3.heap.size ∧ pr < w3.heap.size) := Lib.hid ⟨hpl, hprl⟩
  clear hown hgrow hat HO1 HS1 HL1 c0 c1 c2 c3 c4 c5 c6 c7 hpl hprl
  have hpl := hb8.lt
  obtain ⟨c0, c1, c2, c3, c4, c5, c6, c7⟩ := eight hb8
  have f7 := hb8.free 7
  have HO2 : Hid (Owns IE IT (w8.alloc (.cells #[.int .i64 r] IT)) (.slice a8 rn c8) R) := Lib.hid (G8.out.own.turns ((Turns.refl (fun _ => False) _).alloc _) (fun _ _ h => h))
  have HS2 : Hid (Sub IE 0 (w8.alloc (.cells #[.int .i64 r] IT)) (.slice (some ⟨w8.heap.size, 0, none⟩) 1 1) [r]) := Lib.hid (ints.Sub.one (Blk.new _ _ _))
  have HL2 : Hid (R.length + ([r] : List Int).length ≤ 1048576) := Lib.hid (by simp [HRN.out]; omega)
  clear hb8
  go_wp2_with (at_builtin; refine wpList_append_sub (E := IE) Try.underlying22 infoI rfl (by decide) (by decide) rfl _ _ rfl _ R [r] rfl HO2.out _ rfl 0 HS2.out HL2.out ?_)
  intro v10 w10 hown hgrow hat
  have G10 := Lib.hid (G8.out.push hown hgrow (by rw [World.size_alloc]; exact hat))
  have hlen : (R ++ [r]).length = rn + 1 := by simp [HRN.out]
  obtain ⟨a10, c10, hv10, _⟩ := G10.out.own.form
  rw [hlen] at hv10
  subst hv10
  have hb10 := G10.out.n.blk HB1.out (fun h => h)
  have hr10 := G10.out.n.blk HR1.out (fun h => h)
  have HB10 := Lib.hid hb10
  have HR10 := Lib.hid hr10
  clear hown hgrow hat HO2 HS2 HL2 c0 c1 c2 c3 c4 c5 c6 c7 f7 hpl hlen hr10 HB1 HR1
  obtain ⟨c0, c1, c2, c3, c4, c5, c6, c7⟩ := eight hb10
  have f7 := hb10.free 7
  clear hb10
  go_upto_region 2 with fail
  have HT11 := Lib.hid ((Turns.refl (· = pb) w10).setCell (p := ⟨pb, 7, none⟩) (.inl rfl) (.slice a10 (rn + 1) c10))
  have HB11 : Hid (Blk (w10.setCell ⟨pb, 7, none⟩ (.slice a10 (rn + 1) c10)) pb (rl d u sp (.slice ao N.length cc) at' most mv (.slice a10 (rn + 1) c10)) RL) := Lib.hid (HB10.out.set 7 _)
  refine (show Code.wp _ _ _ _ (w10.setCell ⟨pb, 7, none⟩ (.slice a10 (rn + 1) c10)) from ?_)
  clear c0 c1 c2 c3 c4 c5 c6 c7 f7
  generalize w10.setCell ⟨pb, 7, none⟩ (.slice a10 (rn + 1) c10) = w11 at *
  have hr11 := HT11.out.blk HR10.out (fun e => HNE.out e.symm)
  have HR11 := Lib.hid hr11
  have HVB : Hid (∀ g, (Value.slice a10 (rn + 1) c10).ownBlock = some g → w3.heap.size ≤ g) := Lib.hid (fun g hg => G10.out.vb g hg)
  have HSW : Hid (Sub IE 0 w11 (.slice a10 (rn + 1) c10) (R ++ [r])) := Lib.hid (Sub.turns' (G10.out.own.sub 0 (fun _ _ => Nat.zero_le _)) HT11.out (fun g hg e => by have := HVB.out g hg; have := HPL.out; omega))
  have HN11 : Hid (New w w11) := Lib.hid ((HW1.out.trans (G10.out.n.mono (fun _ _ h => h.elim))).trans (HT11.out.mono (fun i _ hi => .inr (by have := HPB.out; omega))))
  have HTF := Lib.hid (fun W (n : New w11 W) => HTT.out W a10 c10 (new_tr HN11.out n) (Sub.turns HSW.out n (fun _ _ h => h)))
  have HTG := Lib.hid (fun W (n : New w11 W) => HTU.out W a10 c10 (new_tr HN11.out n) (Sub.turns HSW.out n (fun _ _ h => h)))
  clear hr11 HTT HTU G8 G10 HB10 HR10 HT11 HW1
  obtain ⟨c0, c1, c2, c3, c4, c5, c6, c7⟩ := eight HB11.out
  have hplt := HB11.out.lt
  go_upto_region 2 with fail
  go_cut [18] (fun v wx => v = .bool (decide (d ≤ (dn : Int))) ∧ New w11 wx)
  case first =>
    go_region_with (go_at_call 35; (with_reducible refine Calls.mono (HTF.out _ ?_) ?_); (focus (exact (Turns.refl _ _).drew)); rintro e w12 ⟨rfl, n12⟩; have y0 := (n12.cell (a := ⟨pb, 0, none⟩) hplt (fun h => h)).trans c0; have N12 := Lib.hid (Turns.of_drew n12); clear n12)
    all_goals
      go_wp2_with fail
      go_meet
      case rel => exact ⟨rfl, N12.out⟩
  case rest =>
    obtain ⟨rfl, n12⟩ := hcut
    have HN12 := Lib.hid n12
    have HB12 := Lib.hid (n12.blk HB11.out (fun h => h))
    have HR12 := Lib.hid (n12.blk HR11.out (fun h => h))
    clear n12 c0 c1 c2 c3 c4 c5 c6 c7 hplt HTF HB11 HR11
    obtain ⟨c0, c1, c2, c3, c4, c5, c6, c7⟩ := eight HB12.out
    have hplt := HB12.out.lt
    by_cases hd : d ≤ (dn : Int)
    · have dd : decide (d ≤ (dn : Int)) = true := decide_eq_true hd
      have hat := HPO.out hd
      have HE : Hid (RQ.tickB ⟨d, u, sp, N, at', most, mv, R⟩ r = true ∧ RQ.tick ⟨d, u, sp, N, at', most, mv, R⟩ r = ⟨d, u, sp, N, at' - 1, most, mv + 1, []⟩) := Lib.hid ⟨by rw [HTB.out.1, dd]; rfl, by rw [HTB.out.2, if_pos hd]⟩
      have W1 : IntKind.i64.wrap ((at' : Int) - 1) = ((at' - 1 : Nat) : Int) := by rw [IntWalk.i64_in _ (by omega)]; omega
      have HST := Lib.hid (rstep d u sp (at' : Int) most mv ((at' - 1 : Nat) : Int) ao N.length cc a10 (rn + 1) c10 wc (by omega) (by omega))
      rw [dd]
      clear hd
      go_wp2_with fail
      refine HST.out.mono ?_
      rintro e w13 ⟨rfl, n13⟩
      have hr13 := n13.blk HR12.out (fun h => h)
      have HR13 := Lib.hid hr13
      have HN13 := Lib.hid (new_tr HN11.out (new_tr HN12.out n13))
      clear n13 HST c0 c1 c2 c3 c4 c5 c6 c7 hplt
      obtain ⟨r0, r1, r2, r3, r4, r5, r6, r7⟩ := eight hr13
      obtain ⟨f0, f1, f2, f3, f4, f5, f6, f7⟩ := frees8 hr13
      clear hr13
      go_wp2_with fail
      refine (show bodyPost _ _ _ _ _ (puts w13 pr 0 [.int .i64 d, .int .i64 u, .int .i64 sp, .slice ao N.length cc, .int .i64 ((at' - 1 : Nat) : Int), .int .i64 most, .int .i64 (mv + 1), (.slice none 0 0)]) from ?_)
      have HF := Lib.hid (fin8 (vs := [.int .i64 d, .int .i64 u, .int .i64 sp, .slice ao N.length cc, .int .i64 ((at' - 1 : Nat) : Int), .int .i64 most, .int .i64 (mv + 1), (.slice none 0 0)]) HPR.out HN13.out HR13.out rfl)
      generalize puts w13 pr 0 [.int .i64 d, .int .i64 u, .int .i64 sp, .slice ao N.length cc, .int .i64 ((at' - 1 : Nat) : Int), .int .i64 most, .int .i64 (mv + 1), (.slice none 0 0)] = w99 at *
      obtain ⟨g0, g1, g2, g3, g4, g5, g6, g7⟩ := eight HF.out.1
      refine bodyPost_ret (v := .tuple #[.agg #[.int .i64 d, .int .i64 u, .int .i64 sp, .slice ao N.length cc, .int .i64 ((at' - 1 : Nat) : Int), .int .i64 most, .int .i64 (mv + 1), (.slice none 0 0)], .bool true]) (by simp [results, Try.results13, go_sem, g0, g1, g2, g3, g4, g5, g6, g7]) rfl ?_
      refine ⟨none, 0, ?_, ?_⟩
      · rw [HE.out.1, HE.out.2]; rfl
      · rw [HE.out.2]; exact ⟨.inl ⟨rfl, rfl⟩, fun g hg => by simp [Value.ownBlock] at hg, HF.out.2.1⟩
    · have dd : decide (d ≤ (dn : Int)) = false := decide_eq_false hd
      rw [dd]
      have HND := Lib.hid hd
      have HTG2 := Lib.hid (fun W (n : New wc W) => HTG.out W (new_tr HN12.out n))
      clear hd HTG
      go_upto_region 4 with fail
      go_cut [28] (fun v wx => v = .bool (decide (u ≤ (up : Int))) ∧ New wc wx)
      case first =>
        go_region_with (go_at_call 35; (with_reducible refine Calls.mono (HTG2.out _ ?_) ?_); (focus (exact (Turns.refl _ _).drew)); rintro e w13 ⟨rfl, n13⟩; have y1 := (n13.cell (a := ⟨pb, 1, none⟩) hplt (fun h => h)).trans c1; have N13 := Lib.hid (Turns.of_drew n13); clear n13)
        all_goals
          go_wp2_with fail
          go_meet
          case rel => exact ⟨rfl, N13.out⟩
      case rest =>
        obtain ⟨rfl, n13⟩ := hcut
        have HN13 := Lib.hid (new_tr HN12.out n13)
        have HB13 := Lib.hid (n13.blk HB12.out (fun h => h))
        have HR13 := Lib.hid (n13.blk HR12.out (fun h => h))
        clear n13 c0 c1 c2 c3 c4 c5 c6 c7 hplt HTG2 HB12 HR12
        obtain ⟨c0, c1, c2, c3, c4, c5, c6, c7⟩ := eight HB13.out
        by_cases hu : u ≤ (up : Int)
        · have du : decide (u ≤ (up : Int)) = true := decide_eq_true hu
          have HE : Hid (RQ.tickB ⟨d, u, sp, N, at', most, mv, R⟩ r = true ∧ RQ.tick ⟨d, u, sp, N, at', most, mv, R⟩ r = ⟨d, u, sp, N, at' + 1, most, mv + 1, []⟩) := Lib.hid ⟨by rw [HTB.out.1, dd, du]; rfl, by rw [HTB.out.2, if_neg HND.out, if_pos hu]⟩
          have W1 : IntKind.i64.wrap ((at' : Int) + 1) = ((at' + 1 : Nat) : Int) := by rw [IntWalk.i64_in _ (by omega)]; omega
          have HST := Lib.hid (fun W => rstep d u sp (at' : Int) most mv ((at' + 1 : Nat) : Int) ao N.length cc a10 (rn + 1) c10 W (by omega) (by omega))
          rw [du]
          clear hu
          go_wp2_with fail
          refine (HST.out _).mono ?_
          rintro e w14 ⟨rfl, n14⟩
          have hr14 := n14.blk HR13.out (fun h => h)
          have HR14 := Lib.hid hr14
          have HN14 := Lib.hid (new_tr HN11.out (new_tr HN13.out n14))
          clear n14 HST c0 c1 c2 c3 c4 c5 c6 c7
          obtain ⟨r0, r1, r2, r3, r4, r5, r6, r7⟩ := eight hr14
          obtain ⟨f0, f1, f2, f3, f4, f5, f6, f7⟩ := frees8 hr14
          clear hr14
          go_wp2_with fail
          refine (show bodyPost _ _ _ _ _ (puts w14 pr 0 [.int .i64 d, .int .i64 u, .int .i64 sp, .slice ao N.length cc, .int .i64 ((at' + 1 : Nat) : Int), .int .i64 most, .int .i64 (mv + 1), (.slice none 0 0)]) from ?_)
          have HF := Lib.hid (fin8 (vs := [.int .i64 d, .int .i64 u, .int .i64 sp, .slice ao N.length cc, .int .i64 ((at' + 1 : Nat) : Int), .int .i64 most, .int .i64 (mv + 1), (.slice none 0 0)]) HPR.out HN14.out HR14.out rfl)
          generalize puts w14 pr 0 [.int .i64 d, .int .i64 u, .int .i64 sp, .slice ao N.length cc, .int .i64 ((at' + 1 : Nat) : Int), .int .i64 most, .int .i64 (mv + 1), (.slice none 0 0)] = w99 at *
          obtain ⟨g0, g1, g2, g3, g4, g5, g6, g7⟩ := eight HF.out.1
          refine bodyPost_ret (v := .tuple #[.agg #[.int .i64 d, .int .i64 u, .int .i64 sp, .slice ao N.length cc, .int .i64 ((at' + 1 : Nat) : Int), .int .i64 most, .int .i64 (mv + 1), (.slice none 0 0)], .bool true]) (by simp [results, Try.results13, go_sem, g0, g1, g2, g3, g4, g5, g6, g7]) rfl ?_
          refine ⟨none, 0, ?_, ?_⟩
          · rw [HE.out.1, HE.out.2]; rfl
          · rw [HE.out.2]; exact ⟨.inl ⟨rfl, rfl⟩, fun g hg => by simp [Value.ownBlock] at hg, HF.out.2.1⟩
        · have du : decide (u ≤ (up : Int)) = false := decide_eq_false hu
          have HE : Hid (RQ.tickB ⟨d, u, sp, N, at', most, mv, R⟩ r = false ∧ RQ.tick ⟨d, u, sp, N, at', most, mv, R⟩ r = ⟨d, u, sp, N, at', most, mv, R ++ [r]⟩) := Lib.hid ⟨by rw [HTB.out.1, dd, du]; rfl, by rw [HTB.out.2, if_neg HND.out, if_neg hu]⟩
          rw [du]
          clear hu
          obtain ⟨r0, r1, r2, r3, r4, r5, r6, r7⟩ := eight HR13.out
          obtain ⟨f0, f1, f2, f3, f4, f5, f6, f7⟩ := frees8 HR13.out
          have HN14 := Lib.hid (new_tr HN11.out HN13.out)
          have HS14 := Lib.hid (Sub.turns HSW.out HN13.out (fun _ _ h => h))
          go_wp2_with fail
          refine (show bodyPost _ _ _ _ _ (puts wc pr 0 [.int .i64 d, .int .i64 u, .int .i64 sp, .slice ao N.length cc, .int .i64 at', .int .i64 most, .int .i64 mv, (.slice a10 (rn + 1) c10)]) from ?_)
          have HF := Lib.hid (fin8 (vs := [.int .i64 d, .int .i64 u, .int .i64 sp, .slice ao N.length cc, .int .i64 at', .int .i64 most, .int .i64 mv, (.slice a10 (rn + 1) c10)]) HPR.out HN14.out HR13.out rfl)
          generalize puts wc pr 0 [.int .i64 d, .int .i64 u, .int .i64 sp, .slice ao N.length cc, .int .i64 at', .int .i64 most, .int .i64 mv, (.slice a10 (rn + 1) c10)] = w99 at *
          obtain ⟨g0, g1, g2, g3, g4, g5, g6, g7⟩ := eight HF.out.1
          refine bodyPost_ret (v := .tuple #[.agg #[.int .i64 d, .int .i64 u, .int .i64 sp, .slice ao N.length cc, .int .i64 at', .int .i64 most, .int .i64 mv, (.slice a10 (rn + 1) c10)], .bool false]) (by simp [results, Try.results13, go_sem, g0, g1, g2, g3, g4, g5, g6, g7]) rfl ?_
          have hlen : (R ++ [r]).length = rn + 1 := by simp [HRN.out]
          refine ⟨a10, c10, ?_, ?_⟩
          · rw [HE.out.1, HE.out.2, hlen]
          · rw [HE.out.2, hlen]
            exact ⟨Sub.turns' HS14.out HF.out.2.2 (fun g hg e => by have := HVB.out g hg; have := HPL.out; omega), fun g hg => Nat.le_trans (by have := HPL.out; have := HPR.out; omega) (HVB.out g hg), HF.out.2.1⟩
end Go.Proofs.Ytfhbcdjbfjoknaa.lad
