/-
  LedgerPlays: the law.
-/
import Derived.Test.YtnpaajmcahlloaaLedEnds
import Derived.Test.YtnpaajmcahlloaaLedRef2
import Derived.Test.YtnpaajmcahlloaaLactRow
import Derived.Test.YtnpaajmcahlloaaMask
import Derived.Deep.CutBlock
namespace Go.Proofs.Ytnpaajmcahlloaa.led
open Go.RowKit mem
open ints (IE IT ST infoI)
set_option linter.unusedVariables false

abbrev AT : TypeId := 30
theorem own_own_ne {α β : Type} {E : Enc α} {E' : Enc β} {w : World} {v v' : Value} {l : List α} {l' : List β} {T U : TypeId} (h : Owns E T w v l) (k : Owns E' U w v' l') (hT : T ≠ U) : ∀ g, v.ownBlock = some g → v'.ownBlock ≠ some g := by
  intro g hg
  rcases h.2 with ⟨rfl, _⟩ | ⟨g', cap, cur, rfl, _, hb, _⟩
  · simp [Value.ownBlock] at hg
  · have : g' = g := by simpa [Value.ownBlock] using hg
    subst this
    exact own_ne k hb (fun e => hT e.symm)
theorem new_trans {a b c : World} (h : New a b) (k : New b c) : New a c := h.trans (k.mono (fun _ _ h => h.elim))

/-- both sides hold the same frames -/
structure Pl (w wr : World) (p : Nat) (v : Value) (L : List Fr) (i : Nat) (rv : Value) : Prop where
  o : Own w wr p v L i
  r : Rl wr rv L
  rb : ∀ g, rv.ownBlock = some g → w.heap.size ≤ g
section
variable {w wr w2 : World} {p : Nat} {v v2 rv r2 : Value} {L L2 : List Fr} {i j : Nat}
theorem Pl.later (h : Pl w wr p v L i rv) (n : New wr w2) : Pl w w2 p v L i rv := ⟨h.o.later n, h.r.later n, h.rb⟩
/-- the program has answered -/
theorem Pl.row (h : Pl w wr p v L i rv) (k : Lft wr w2 p v v2 L2 j) : Rl w2 rv L :=
  h.r.turns k.t (fun g hg e => by
    rcases e with e | e
    · exact own_ne h.r.own h.o.bk.blk (by decide) (by rw [hg, e])
    · exact own_own_ne h.r.own h.o.bk.own (by decide) g hg e.symm)
theorem Pl.ends (h : Own w wr p v L2 i) (rb : ∀ g, rv.ownBlock = some g → w.heap.size ≤ g) (k : RPost wr w2 rv r2 L2) : Pl w w2 p v L2 i r2 :=
  ⟨h.later k.n, k.r, fun g hg => by
    rcases k.src with e | e
    · exact rb g (by rw [← e]; exact hg)
    · exact Nat.le_trans h.n.size (e g hg)⟩
end
/-- the sum of the counts of the first q fates -/
def sumF (L : List Fr) : Nat → Nat
  | 0 => 0
  | q + 1 => sumF L q + cnt (q : Int) L
theorem sumF_all {L : List Fr} (h : ∀ x ∈ L, x.ok) : sumF L 4 = L.length := by
  show 0 + cnt ((0 : Nat) : Int) L + cnt ((1 : Nat) : Int) L + cnt ((2 : Nat) : Int) L + cnt ((3 : Nat) : Int) L = L.length
  induction L with
  | nil => rfl
  | cons x L ih =>
    have h1 := ih (fun y hy => h y (List.mem_cons_of_mem _ hy))
    have hx := h x List.mem_cons_self
    have hf : x.fate = 0 ∨ x.fate = 1 ∨ x.fate = 2 ∨ x.fate = 3 := by have := hx.f0; have := hx.f1; omega
    unfold cnt at *
    simp only [List.countP_cons, List.length_cons]
    rcases hf with e | e | e | e <;> simp [e] <;> simp at h1 <;> omega
theorem sumF_le (L : List Fr) (q : Nat) (hq : q ≤ 4) : sumF L q ≤ 4 * L.length := by
  have h0 := cnt_le 0 L
  have h1 := cnt_le 1 L
  have h2 := cnt_le 2 L
  have h3 := cnt_le 3 L
  have hq4 : q = 0 ∨ q = 1 ∨ q = 2 ∨ q = 3 ∨ q = 4 := by omega
  rcases hq4 with rfl | rfl | rfl | rfl | rfl
  · show 0 ≤ _; omega
  · show 0 + cnt ((0 : Nat) : Int) L ≤ _; simp; omega
  · show 0 + cnt ((0 : Nat) : Int) L + cnt ((1 : Nat) : Int) L ≤ _; simp; omega
  · show 0 + cnt ((0 : Nat) : Int) L + cnt ((1 : Nat) : Int) L + cnt ((2 : Nat) : Int) L ≤ _; simp; omega
  · show 0 + cnt ((0 : Nat) : Int) L + cnt ((1 : Nat) : Int) L + cnt ((2 : Nat) : Int) L + cnt ((3 : Nat) : Int) L ≤ _; simp; omega

set_option maxRecDepth 10000 in
set_option maxHeartbeats 4000000 in
theorem plays_law (ao : Option Addr) (n c : Nat) (z : Nat → Int × Int × Int × Int) (w : World) (h : args.lactRow w ao n c z) :
    Calls Try.prog 3 #[.slice ao n c] w fun e w' => e = .returned (.bool true) ∧ Below w.heap.size w w' := by
  have HA := Lib.hid (awake w)
  obtain ⟨hn, _, hrow⟩ := h
  have HROW := Lib.hid hrow
  clear hrow
  unfold maxLen at hn
  go_enter Try.func3, Try.ntmps3
  go_wp2_with fail
  refine HA.out.mono ?_
  rintro e w1 ⟨rfl, n1⟩
  have HO := Lib.hid (zero n1)
  clear n1 HA
  go_upto_region 4 with fail
  refine (show Code.wp _ _ _ _ (w1.alloc (.cells #[.slice none 0 0, .int .i64 0, .int .i64 0, .int .i64 0, .int .i64 0, .int .i64 0] BT)) from ?_)
  generalize (w1.alloc (.cells #[.slice none 0 0, .int .i64 0, .int .i64 0, .int .i64 0, .int .i64 0, .int .i64 0] BT)) = w2 at *
  generalize w1.heap.size = p at *
  have HP2 : Hid (Pl w (w2.alloc (.cells #[] OT)) p (.slice none 0 0) [] 0 (.slice (some ⟨w2.heap.size, 0, none⟩) 0 0)) := Lib.hid ⟨HO.out.later ((Turns.refl _ _).alloc _), ⟨⟨by simp [Enc.all], .inr ⟨w2.heap.size, 0, #[], rfl, Nat.zero_le _, Blk.new _ _ _, Nat.le_refl _, Nat.zero_le _, by simp, by simp [Enc.all]⟩⟩, by simp, fun x hx => by simp at hx⟩, fun g hg => by
    have e : w2.heap.size = g := by simpa [Value.ownBlock] using hg
    rw [← e]; exact HO.out.n.size⟩
  clear HO
  go_wp2_with fail
  generalize w2.alloc (.cells #[] OT) = w3 at *
  generalize w2.heap.size = pr0 at *
  go_loopw [4, 5, 6] (fun lv nw i wr => ∃ (k : Nat) (now : Int) (v : Value) (L : List Fr) (j : Nat), k ≤ n ∧ k ≤ 150 ∧ nw = .int .i64 now ∧ i = .int .i64 k ∧ Pl w wr p v L j lv ∧ L.length ≤ k ∧ 0 ≤ now ∧ now ≤ 7 * k) (fun _ _ i _ => n - (intOf i).toNat)
  case atStart => exact ⟨0, 0, _, _, _, by omega, by omega, rfl, rfl, HP2.out, Nat.le_refl _, by omega, by omega⟩
  case round =>
    obtain ⟨k, now, v, L, j, hk, hk2, rfl, rfl, hp, hLk, hn0, hn1⟩ := hrel
    have HP := Lib.hid hp
    clear hp HP2
    by_cases hgo : k < n ∧ k < 150
    · obtain ⟨hlt, hlt2⟩ := hgo
      obtain ⟨b0, off, rfl, hb0, hc⟩ := HROW.out.resolve_left (by omega)
      have hzc := hc k hlt
      have e0 := (HP.out.o.n.cell (a := ⟨b0, off + k * 4, none⟩) hb0 (fun h => h)).trans hzc.1
      have e1 := (HP.out.o.n.cell (a := ⟨b0, off + k * 4 + 1, none⟩) hb0 (fun h => h)).trans hzc.2.1
      have e2 := (HP.out.o.n.cell (a := ⟨b0, off + k * 4 + 2, none⟩) hb0 (fun h => h)).trans hzc.2.2.1
      have e3 := (HP.out.o.n.cell (a := ⟨b0, off + k * 4 + 3, none⟩) hb0 (fun h => h)).trans hzc.2.2.2
      clear hc hzc hb0
      generalize (z k).1 = zk at *
      generalize (z k).2.1 = zb at *
      generalize (z k).2.2.1 = zn at *
      generalize (z k).2.2.2 = zf at *
      have M3 := mask.mask3 zb
      have M5 := mask.mask5 zb
      obtain ⟨d, hd⟩ : ∃ d, d = zb % 8 := ⟨_, rfl⟩
      have hd1 : 0 ≤ d ∧ d ≤ 7 := by omega
      rw [← hd] at M3
      obtain ⟨age, hage⟩ : ∃ age, age = zb % 32 := ⟨_, rfl⟩
      rw [← hage] at M5
      have hdk : (k : Int) < (n : Int) := by omega
      have d1 : decide ((k : Int) < (n : Int)) = true := decide_eq_true hdk
      have d2 : decide ((k : Int) < 150) = true := decide_eq_true (by omega)
      have W1 : IntKind.i64.wrap (now + d) = now + d := IntWalk.i64_in _ (by omega)
      have HT0 : Hid (0 ≤ now + d ∧ now + d ≤ 7 * ((k : Int) + 1) ∧ now + d ≤ 1048576) := Lib.hid (by omega)
      clear hd hage
      have HX : Hid (Blk (wr.alloc (.cells #[.int .i64 zk, .int .i64 zb, .int .i64 zn, .int .i64 zf] AT)) wr.heap.size #[.int .i64 zk, .int .i64 zb, .int .i64 zn, .int .i64 zf] AT) := Lib.hid (Blk.new _ _ _)
      have HP3 : Hid (Pl w (wr.alloc (.cells #[.int .i64 zk, .int .i64 zb, .int .i64 zn, .int .i64 zf] AT)) p v L j u4) := Lib.hid (HP.out.later ((Turns.refl _ _).alloc _))
      go_upto_region 10 with fail
      refine (show Code.wp _ _ _ _ (wr.alloc (.cells #[.int .i64 zk, .int .i64 zb, .int .i64 zn, .int .i64 zf] AT)) from ?_)
      generalize wr.alloc (.cells #[.int .i64 zk, .int .i64 zb, .int .i64 zn, .int .i64 zf] AT) = w4 at *
      generalize wr.heap.size = px at *
      clear e0 e1 e2 e3 HP
      have x0 : w4.cell? ⟨px, 0, none⟩ = some (.int .i64 zk) := HX.out.cell 0
      have x1 : w4.cell? ⟨px, 1, none⟩ = some (.int .i64 zb) := HX.out.cell 1
      have x2 : w4.cell? ⟨px, 2, none⟩ = some (.int .i64 zn) := HX.out.cell 2
      have x3 : w4.cell? ⟨px, 3, none⟩ = some (.int .i64 zf) := HX.out.cell 3
      obtain ⟨ao, c1, hv, _, _⟩ := HP3.out.r.at_
      subst hv
      go_upto_block 2 with fail
      go_cut [4] (fun g wx => ∃ (v' : Value) (L' : List Fr) (j' : Nat) (a' : Option Addr) (c' : Nat), g = .slice a' L'.length c' ∧ Pl w wx p v' L' j' (.slice a' L'.length c') ∧ Blk wx px #[.int .i64 zk, .int .i64 zb, .int .i64 zn, .int .i64 zf] AT ∧ L'.length ≤ k + 1)
      case first =>
        by_cases hk1 : zk = 1
        · have hb1 : (zk == 1) = true := by simp [hk1]
          have HAC := Lib.hid (accept p v L j (now + d) w4 HP3.out.o.bk (by omega) HT0.out.1 HT0.out.2.2)
          clear hk1
          generalize hlL : L.length = len at *
          have HLL := Lib.hid hlL
          clear hlL
          go_wp2_with fail
          refine HAC.out.mono ?_
          rintro e w5 ⟨v5, rfl, l5⟩
          have HO5 := Lib.hid (HP3.out.o.lft l5)
          have HR5 := Lib.hid (HP3.out.row l5)
          have HX5 := Lib.hid (l5.keep HP3.out.o.bk HX.out (by decide) (by decide))
          clear l5 HAC x0 x1 x2 x3
          go_wp2_with (at_builtin; refine wpList_append_one (E := OE) Try.underlying28 infoO rfl (by decide) (by decide) rfl _ _ rfl _ L ⟨now + d, 0, 0⟩ rfl (HR5.out.own.turns (S := fun _ => False) ((Turns.refl _ _).alloc _) (fun _ _ h => h)) w5.heap.size rfl (heap_alloc_new w5 _) (by have := HLL.out; omega) ?_; intro v6 w6 hown6 hgrow6 hat6)
          have HG6 : Hid (Pl w w6 p v5 (L ++ [⟨now + d, 0, 0⟩]) j v6 ∧ Blk w6 px #[.int .i64 zk, .int .i64 zb, .int .i64 zn, .int .i64 zf] AT) := Lib.hid (by
            have t6 := Gr.turned hgrow6
            refine ⟨⟨⟨HO5.out.bk.turns t6 (fun e => own_ne HR5.out.own HO5.out.bk.blk (by decide) e.symm) (fun g hg e => own_own_ne HO5.out.bk.own HR5.out.own (by decide) g hg e.symm), HO5.out.n.trans (t6.mono (fun m _ hm => .inr (HP3.out.rb m hm.symm))), HO5.out.p0, HO5.out.vb⟩, ⟨hown6, HO5.out.bk.len, HO5.out.bk.ok⟩, fun g hg => ?_⟩, t6.blk HX5.out (fun e => own_ne HR5.out.own HX5.out (by decide) e.symm)⟩
            rcases hat6 with e | e
            · exact HP3.out.rb g (e.symm.trans hg)
            · rw [e] at hg; injection hg with hg; have := HO5.out.n.size; simp at hg; omega)
          clear hown6 hgrow6 hat6
          obtain ⟨a6, c6, hv6, _, _⟩ := HG6.out.1.r.at_
          subst hv6
          go_meet
          case rel => exact ⟨_, _, _, _, _, rfl, HG6.out.1, HG6.out.2, by rw [len_push, HLL.out]; omega⟩
        · have hb1 : (zk == 1) = false := by simp [hk1]
          by_cases hk2' : zk = 2
          · have hb2 : (zk == 2) = true := by simp [hk2']
            have HEN := Lib.hid (end_ p v L j zn zf (now + d) w4 HP3.out.o.bk HT0.out.1 HT0.out.2.2)
            clear hk1 hk2'
            have HLN := Lib.hid (endL_len L zn zf (now + d))
            generalize hlL : L.length = len at *
            have HLL := Lib.hid hlL
            clear hlL
            go_wp2_with fail
            refine HEN.out.mono ?_
            rintro e w5 ⟨rfl, j5, l5⟩
            have HO5 := Lib.hid (HP3.out.o.lft l5)
            have HR5 := Lib.hid (HP3.out.row l5)
            have hx5 := l5.keep HP3.out.o.bk HX.out (by decide) (by decide)
            have HX5 := Lib.hid hx5
            clear l5 HEN x0 x1 x2 x3
            have x2 : w5.cell? ⟨px, 2, none⟩ = some (.int .i64 zn) := hx5.cell 2
            have x3 : w5.cell? ⟨px, 3, none⟩ = some (.int .i64 zf) := hx5.cell 3
            have HRE := Lib.hid (rend _ L zn zf (now + d) w5 HR5.out HT0.out.1 HT0.out.2.2)
            clear hx5
            go_wp2_with fail
            refine HRE.out.mono ?_
            rintro e w6 ⟨v6, rfl, hp6⟩
            have HP6 := Lib.hid (Pl.ends HO5.out HP3.out.rb hp6)
            have HX6 := Lib.hid (hp6.n.blk HX5.out (fun h => h))
            clear hp6 HRE x2 x3
            obtain ⟨a6, c6, hv6, _, _⟩ := HP6.out.r.at_
            subst hv6
            go_wp2_with fail
            go_meet
            case rel => exact ⟨_, _, _, _, _, rfl, HP6.out, HX6.out, by rw [HLN.out]; omega⟩
          · have hb2 : (zk == 2) = false := by simp [hk2']
            clear hk1 hk2'
            go_wp2_with fail
            go_meet
            case rel => exact ⟨_, _, _, _, _, rfl, HP3.out, HX.out, by omega⟩
      case rest =>
        obtain ⟨v5, L5, j5, a5, c5, rfl, hp5, hx5, hl5⟩ := hcut
        have HP5 := Lib.hid hp5
        have HX5 := Lib.hid hx5
        clear hp5 hx5 HP3 HX x0 x1 x2 x3
        generalize hlL : L5.length = len at *
        have HLL := Lib.hid hlL
        clear hlL
        go_wp2_with fail
        go_loopw [11, 12] (fun sv fv wy => ∃ q : Nat, q ≤ 4 ∧ fv = .int .i64 q ∧ sv = .int .i64 (sumF L5 q) ∧ Pl w wy p v5 L5 j5 (.slice a5 len c5) ∧ Blk wy px #[.int .i64 zk, .int .i64 zb, .int .i64 zn, .int .i64 zf] AT) (fun _ fv _ => 4 - (intOf fv).toNat)
        case atStart => exact ⟨0, by omega, rfl, rfl, HP5.out, HX5.out⟩
        case round =>
          obtain ⟨q, hq, rfl, rfl, hp6, hx6⟩ := hrel
          rename World => w6
          have HP6 := Lib.hid hp6
          have HX6 := Lib.hid hx6
          clear hp6 hx6 HP5 HX5
          by_cases hq4 : q < 4
          · have d3 : decide ((q : Int) ≤ 3) = true := decide_eq_true (by omega)
            have hcf : cntF (q : Int) L5 = cnt (q : Int) L5 := by unfold cntF; rw [if_pos (by omega)]
            have HC := count p v5 L5 j5 (q : Int) w6 HP6.out.o.bk
            rw [hcf] at HC
            have HC := Lib.hid HC
            have HRC := Lib.hid (rcount _ L5 (q : Int) w6 HP6.out.r)
            have hsl := sumF_le L5 (q + 1) (by omega)
            rw [HLL.out] at hsl
            have HS : Hid (sumF L5 (q + 1) = sumF L5 q + cnt (q : Int) L5) := Lib.hid rfl
            rw [HS.out] at hsl
            have HCF := Lib.hid hcf
            clear hcf
            generalize sumF L5 q = sq at *
            generalize cnt (q : Int) L5 = cq at *
            have W2 : IntKind.i64.wrap ((sq : Int) + (cq : Int)) = ((sq + cq : Nat) : Int) := by rw [IntWalk.i64_in _ (by omega)]; omega
            have W3 : IntKind.i64.wrap ((q : Int) + 1) = ((q + 1 : Nat) : Int) := by rw [IntWalk.i64_in _ (by omega)]; omega
            go_wp2_with fail
            refine HC.out.mono ?_
            rintro e w7 ⟨rfl, rfl⟩
            go_wp2_with fail
            refine HRC.out.mono ?_
            rintro e w8 ⟨rfl, n8⟩
            have HP8 := Lib.hid (HP6.out.later n8)
            have HX8 := Lib.hid (n8.blk HX6.out (fun h => h))
            have h8 := count p v5 L5 j5 (q : Int) w8 HP8.out.o.bk
            rw [HCF.out] at h8
            have HC8 := Lib.hid h8
            clear h8
            clear n8 HRC
            go_wp2_with fail
            refine HC8.out.mono ?_
            rintro e w9 ⟨rfl, rfl⟩
            go_wp2_with fail
            go_roundw
            case rel => exact ⟨q + 1, by omega, by go_num, by rw [HS.out]; (first | rfl | simp | go_num), HP8.out, HX8.out⟩
            case measure => simp [intOf]; omega
          · obtain rfl : q = 4 := by omega
            have d3 : decide (((4 : Nat) : Int) ≤ 3) = false := by decide
            have HSA : Hid (sumF L5 4 = len) := Lib.hid (by rw [sumF_all HP6.out.r.ok]; exact HLL.out)
            rw [HSA.out]
            clear hq4 hq HSA
            have x1 : w6.cell? ⟨px, 1, none⟩ = some (.int .i64 zb) := HX6.out.cell 1
            have hpl := HX6.out.lt
            go_upto_region 29 with fail
            obtain ⟨LU, hLU⟩ : ∃ LU, LU = lateU L5 (now + d) age L5.length := ⟨_, rfl⟩
            have HLU : Hid (LU.length ≤ len ∧ len ≤ 1000) := Lib.hid ⟨by rw [hLU, ← HLL.out]; exact lateU_len _ _ _ _, by rw [← HLL.out]; exact HP6.out.r.len⟩
            have HL1 : Hid (∀ W, New w6 W → Calls Try.prog 13 #[.pointer (some ⟨p, 0, none⟩), .int .i64 (now + d), .int .i64 age] W fun e w' => ∃ a c, e = .returned (.slice a LU.length c) ∧ New w6 w' ∧ New W w' ∧ Sub IE 0 w' (.slice a LU.length c) LU ∧ w'.cell? ⟨px, 1, none⟩ = some (.int .i64 zb)) := Lib.hid (fun W N => (late p v5 L5 j5 (now + d) age W (HP6.out.later N).o.bk HT0.out.1 HT0.out.2.2).mono (fun e w' ⟨u, he, hg⟩ => by
              rw [← hLU] at hg
              obtain ⟨a, c, hu, _⟩ := hg.own.form
              exact ⟨a, c, by rw [he, hu], new_trans N hg.n, hg.n, by rw [← hu]; exact hg.own.sub 0 (fun _ _ => Nat.zero_le _), ((new_trans N hg.n).cell (a := ⟨px, 1, none⟩) HX6.out.lt (fun h => h)).trans (HX6.out.cell 1)⟩))
            have HL2 : Hid (∀ W, New w6 W → Calls Try.prog 14 #[.slice a5 len c5, .int .i64 (now + d), .int .i64 age] W fun e w' => ∃ a c, e = .returned (.slice a LU.length c) ∧ New w6 w' ∧ New W w' ∧ Sub IE 0 w' (.slice a LU.length c) LU ∧ w'.cell? ⟨px, 1, none⟩ = some (.int .i64 zb)) := Lib.hid (fun W N => (rlate _ L5 (now + d) age W (HP6.out.later N).r HT0.out.1 HT0.out.2.2).mono (fun e w' ⟨u, he, hg⟩ => by
              rw [← hLU] at hg
              obtain ⟨a, c, hu, _⟩ := hg.own.form
              exact ⟨a, c, by rw [he, hu], new_trans N hg.n, hg.n, by rw [← hu]; exact hg.own.sub 0 (fun _ _ => Nat.zero_le _), ((new_trans N hg.n).cell (a := ⟨px, 1, none⟩) HX6.out.lt (fun h => h)).trans (HX6.out.cell 1)⟩))
            clear hLU
            go_cut [13, 14] (fun g1 g2 wz => ∃ (a1 : Option Addr) (k1 : Nat) (a2 : Option Addr) (k2 : Nat), g1 = .slice a1 LU.length k1 ∧ g2 = .slice a2 LU.length k2 ∧ New w6 wz ∧ Sub IE 0 wz (.slice a1 LU.length k1) LU ∧ Sub IE 0 wz (.slice a2 LU.length k2) LU)
            case first =>
              go_region_with (first
                | (go_at_call 13; (with_reducible refine Calls.mono (HL1.out _ ?_) ?_); (focus (first | exact (Turns.refl _ _).drew | exact nl2 | exact nl2.drew)); rintro e wl1 ⟨a1, k1, rfl, nl1, nw1, s1, y1⟩; have S1 := Lib.hid s1; clear s1)
                | (go_at_call 14; (with_reducible refine Calls.mono (HL2.out _ ?_) ?_); (focus (first | exact (Turns.refl _ _).drew | exact nl1 | exact nl1.drew)); rintro e wl2 ⟨a2, k2, rfl, nl2, nw2, s2, y2⟩; have S2 := Lib.hid s2; clear s2))
              all_goals
                go_wp2_with fail
                go_meet
                case rel =>
                  first
                    | exact ⟨a1, k1, a2, k2, rfl, rfl, nl2, S1.out.turns nw2 (fun _ _ h => h), S2.out⟩
                    | exact ⟨a1, k1, a2, k2, rfl, rfl, nl1, S1.out, S2.out.turns nw1 (fun _ _ h => h)⟩
            case rest =>
              obtain ⟨a1, k1, a2, k2, rfl, rfl, hn6, hs1, hs2⟩ := hcut
              have HP7 := Lib.hid (HP6.out.later hn6)
              have HX7 := Lib.hid (hn6.blk HX6.out (fun h => h))
              have HS1 := Lib.hid hs1
              have HS2 := Lib.hid hs2
              clear hn6 hs1 hs2 HL1 HL2 HP6 HX6 x1 hpl
              generalize hlu : LU.length = nl at *
              have HLN := Lib.hid hlu
              clear hlu
              have hnl := HLU.out
              have HLE := len_ p v5 L5 j5 _ HP7.out.o.bk
              rw [HLL.out] at HLE
              have HLE := Lib.hid HLE
              go_wp2_with fail
              refine HLE.out.mono ?_
              rintro e w8 ⟨rfl, rfl⟩
              clear HLE
              go_wp2_with fail
              go_loopw [121] (fun i wy => ∃ q : Nat, q ≤ nl ∧ i = .int .i64 q ∧ Pl w wy p v5 L5 j5 (.slice a5 len c5) ∧ Blk wy px #[.int .i64 zk, .int .i64 zb, .int .i64 zn, .int .i64 zf] AT ∧ Sub IE 0 wy (.slice a1 nl k1) LU ∧ Sub IE 0 wy (.slice a2 nl k2) LU) (fun i _ => nl - (intOf i).toNat)
              case atStart => exact ⟨0, by omega, rfl, HP7.out, HX7.out, HS1.out, HS2.out⟩
              case round =>
                obtain ⟨q, hq, rfl, hp9, hx9, hs1, hs2⟩ := hrel
                rename World => w9
                have HP9 := Lib.hid hp9
                have HX9 := Lib.hid hx9
                have HS3 := Lib.hid (And.intro hs1 hs2)
                clear hp9 hx9 HP7 HX7 HS1 HS2
                by_cases hlt3 : q < nl
                · have hne : LU ≠ [] := by intro e; have := HLN.out; rw [e] at this; simp at this; omega
                  obtain ⟨g1, o1, m1, hv1, hc1, hm1, _, hat1⟩ := ints.Sub.at_ hs1 hne
                  obtain ⟨g2, o2, m2, hv2, hc2, hm2, _, hat2⟩ := ints.Sub.at_ hs2 hne
                  have y1 := hat1 q (by rw [HLN.out]; exact hlt3)
                  have y2 := hat2 q (by rw [HLN.out]; exact hlt3)
                  injection hv1 with e1 _ e3
                  injection hv2 with e4 _ e6
                  subst e1 e3 e4 e6
                  clear hat1 hat2 hs1 hs2 hne hc1 hc2 hm1 hm2
                  generalize LU[q]'(by rw [HLN.out]; exact hlt3) = y at *
                  have d4 : decide ((q : Int) < (nl : Int)) = true := decide_eq_true (by omega)
                  have i1 : (q : Int) < (nl : Int) := by omega
                  go_upto_region 35 with fail
                  go_quiet (fail)
                  go_wp2_with fail
                  go_roundw
                  case rel => exact ⟨q + 1, by omega, by go_num, HP9.out.later ((Turns.refl _ _).drewN _), HX9.out, HS3.out.1.turns ((Turns.refl (fun _ => False) _).drewN _) (fun _ _ h => h), HS3.out.2.turns ((Turns.refl (fun _ => False) _).drewN _) (fun _ _ h => h)⟩
                  case measure => simp [intOf]; omega
                · obtain rfl : q = nl := by omega
                  have d4 : decide ((q : Int) < (q : Int)) = false := decide_eq_false (by omega)
                  clear hs1 hs2 HS3
                  have x2 : w9.cell? ⟨px, 2, none⟩ = some (.int .i64 zn) := HX9.out.cell 2
                  have HFA := Lib.hid (fate_ p v5 L5 j5 zn (now + d) w9 HP9.out.o.bk HT0.out.1 HT0.out.2.2)
                  have hn9 := HT0.out
                  cases hh : hasB L5 zn
                  · have hff : fateF L5 zn (now + d) = (0, 0) := by
                      unfold fateF
                      split
                      · rename_i x hx
                        have h1 := (List.getElem?_eq_some_iff.1 hx).1
                        unfold hasB at hh
                        rw [if_neg (by intro h0; simp [h0] at hh; omega)]
                      · rfl
                    rw [hff] at HFA
                    have hzn : zn < 0 ∨ (¬ zn < 0 ∧ (len : Int) ≤ zn) := by
                      unfold hasB at hh
                      rw [HLL.out] at hh
                      by_cases h0 : zn < 0
                      · exact .inl h0
                      · refine .inr ⟨h0, ?_⟩
                        simp at hh
                        omega
                    clear hh hff
                    go_wp2_with fail
                    refine HFA.out.mono ?_
                    rintro e w10 ⟨rfl, n10⟩
                    have HP10 := Lib.hid (HP9.out.later n10)
                    have x2b := (n10.cell (a := ⟨px, 2, none⟩) HX9.out.lt (fun h => h)).trans x2
                    clear n10 x2 HFA
                    rcases hzn with h0 | ⟨h0, h1⟩
                    · have d5 : decide (zn < 0) = true := decide_eq_true h0
                      clear h0
                      go_wp2_with fail
                      go_roundw
                      case rel => exact ⟨k + 1, now + d, _, _, _, by omega, by omega, rfl, by go_num, HP10.out, by rw [HLL.out]; omega, by omega, by omega⟩
                      case measure => simp [intOf]; omega
                    · have d5 : decide (zn < 0) = false := decide_eq_false (by omega)
                      have d6 : decide ((len : Int) ≤ zn) = true := decide_eq_true h1
                      clear h0 h1
                      go_wp2_with fail
                      go_roundw
                      case rel => exact ⟨k + 1, now + d, _, _, _, by omega, by omega, rfl, by go_num, HP10.out, by rw [HLL.out]; omega, by omega, by omega⟩
                      case measure => simp [intOf]; omega
                  · obtain ⟨kn, rfl, x, hx⟩ := hasB_at hh
                    have hff : fateF L5 (kn : Int) (now + d) = (x.fate, waitedF x (now + d)) := by
                      unfold fateF
                      rw [show ((kn : Nat) : Int).toNat = kn by omega, hx]
                      simp
                    rw [hff] at HFA
                    have hkn : kn < len := by rw [← HLL.out]; exact (List.getElem?_eq_some_iff.1 hx).1
                    have hxo := HP9.out.r.ok x (List.mem_of_getElem? hx)
                    have hwf : waitedF x (now + d) = if x.fate = 0 then now + d - x.acc else x.en - x.acc := rfl
                    rw [hwf] at HFA
                    have HXX := Lib.hid hx
                    clear hh hff hx hwf
                    obtain ⟨acc, fate, en⟩ := x
                    obtain ⟨q0, q1, q2, q3, q4, q5⟩ := hxo
                    dsimp only at *
                    go_wp2_with fail
                    refine HFA.out.mono ?_
                    rintro e w10 ⟨rfl, n10⟩
                    have hp10 := HP9.out.later n10
                    have HP10 := Lib.hid hp10
                    have x2b := (n10.cell (a := ⟨px, 2, none⟩) HX9.out.lt (fun h => h)).trans x2
                    clear n10 x2 HFA
                    obtain ⟨ga, ca, hva, _, hat⟩ := hp10.r.at_
                    obtain ⟨g, hg, _, z0, z1, z2⟩ := hat kn _ HXX.out
                    rw [HLL.out] at hva
                    injection hva with e1 _ e3
                    subst e1 e3
                    subst hg
                    have d5 : decide ((kn : Int) < 0) = false := decide_eq_false (by omega)
                    have d6 : decide ((len : Int) ≤ (kn : Int)) = false := decide_eq_false (by omega)
                    have i1 : (kn : Int) < (len : Int) := by omega
                    have s1 : IntKind.i64.wrap (now + d - acc) = now + d - acc := IntWalk.i64_in _ (by omega)
                    have s2 : IntKind.i64.wrap (en - acc) = en - acc := IntWalk.i64_in _ (by omega)
                    clear hat hp10
                    by_cases h0 : fate = 0
                    · subst h0
                      simp only [if_true] at *
                      go_wp2_with fail
                      go_roundw
                      case rel => exact ⟨k + 1, now + d, _, _, _, by omega, by omega, rfl, by go_num, HP10.out.later ((Turns.refl _ _).alloc _), by rw [HLL.out]; omega, by omega, by omega⟩
                      case measure => simp [intOf]; omega
                    · have hb0 : (fate == 0) = false := by simp [h0]
                      rw [if_neg h0]
                      clear h0
                      go_wp2_with fail
                      go_roundw
                      case rel => exact ⟨k + 1, now + d, _, _, _, by omega, by omega, rfl, by go_num, HP10.out.later ((Turns.refl _ _).alloc _), by rw [HLL.out]; omega, by omega, by omega⟩
                      case measure => simp [intOf]; omega
    · have hx : ¬ k < n ∨ (k < n ∧ ¬ k < 150) := by omega
      obtain ⟨ao, c1, hv, _, _⟩ := HP.out.r.at_
      clear hgo
      rcases hx with h1 | ⟨h1, h2⟩
      · have d1 : decide ((k : Int) < (n : Int)) = false := decide_eq_false (by omega)
        go_wp2_with fail
        go_ret
        exact ⟨rfl, HP.out.o.below⟩
      · have d1 : decide ((k : Int) < (n : Int)) = true := decide_eq_true (by omega)
        have d2 : decide ((k : Int) < 150) = false := decide_eq_false (by omega)
        go_wp2_with fail
        go_ret
        exact ⟨rfl, HP.out.o.below⟩
end Go.Proofs.Ytnpaajmcahlloaa.led
