/-
  rewrite.Out: packet.
-/
import Derived.Test.YtijpgkkhjjpjoaaRewPay
import Derived.Test.YtijpgkkhjjpjoaaPuts
namespace Go.Proofs.Ytijpgkkhjjpjoaa.rew
open Go.RowKit mem
set_option linter.unusedVariables false

/-- a unit -/
structure U where
  a : Int
  t : Int
  mr : Bool
  st : Bool
  ky : Bool
  x : ByteArray
  tick : Int
abbrev U.cs (u : U) : List Value := [.int .i64 u.a, .int .i64 u.t, .bool u.mr, .bool u.st, .bool u.ky, .string u.x, .int .i64 u.tick]
/-- a packet without sources, extension, padding -/
structure K where
  mr : Bool
  kind : Int
  seq : Int
  time : Int
  ssrc : Int
  x : ByteArray
abbrev K.cs (k : K) : List Value := [.bool k.mr, .int .u8 k.kind, .int .u16 k.seq, .int .u32 k.time, .int .u32 k.ssrc, .slice none 0 0, .bool false, .int .u16 0, .string ⟨#[]⟩, .string k.x, .int .i64 0]
abbrev zeroK : List Value := [.bool false, .int .u8 0, .int .u16 0, .int .u32 0, .int .u32 0, .slice none 0 0, .bool false, .int .u16 0, .string ⟨#[]⟩, .string ⟨#[]⟩, .int .i64 0]
abbrev KT : TypeId := 48
def packK (o : O) (u : U) (t : Int) : K := ⟨u.mr, o.kind, o.seq, t, o.ssrc, pay o u.x⟩
def packO (o : O) (u : U) : O := { o with seq := IntKind.u16.wrap (o.seq + 1), pk := o.pk + 1, by_ := o.by_ + (pay o u.x).size }
theorem pay_size (o : O) (s : ByteArray) : (pay o s).size ≤ s.size + 6 := by
  unfold pay
  split
  · split
    · rename_i he
      have a := rst_size s he
      have b := (tx_bd (vp.withD (par s) o.pic (max o.lev 0))).2
      have c : (rst s).data.toList.length = (rst s).size := by rw [Array.length_toList]; rfl
      have e : ∀ l : List UInt8, (⟨l.toArray⟩ : ByteArray).size = l.length := fun l => size_mk l
      rw [e, List.length_append, c]
      omega
    · omega
  · omega

abbrev HeldK (w w' : World) (p pu : Nat) (ss ki se : Int) (mr : Bool) (x : ByteArray) : Prop :=
  New w w' ∧ p < w'.heap.size ∧ pu < w'.heap.size ∧ w'.cell? ⟨p, 1, none⟩ = some (.int .u32 ss) ∧ w'.cell? ⟨p, 2, none⟩ = some (.int .u8 ki) ∧ w'.cell? ⟨p, 3, none⟩ = some (.int .u16 se) ∧ w'.cell? ⟨pu, 2, none⟩ = some (.bool mr) ∧ w'.cell? ⟨pu, 5, none⟩ = some (.string x)
section
variable {w w1 w2 : World} {p pu : Nat} {ss ki se : Int} {mr : Bool} {x : ByteArray}
theorem heldK_drew (h : HeldK w w1 p pu ss ki se mr x) : HeldK w w1.drew p pu ss ki se mr x := by
  obtain ⟨hn, h⟩ := h
  exact ⟨hn.drew, h⟩
theorem heldK_new (k : New w1 w2) (h : HeldK w w1 p pu ss ki se mr x) : HeldK w w2 p pu ss ki se mr x := by
  obtain ⟨hn, hl, hb, a1, a2, a3, b2, b5⟩ := h
  have c := fun i => k.cell (a := ⟨p, i, none⟩) hl (fun h => h)
  have d := fun i => k.cell (a := ⟨pu, i, none⟩) hb (fun h => h)
  exact ⟨hn.trans (k.mono (fun _ _ h => h.elim)), Nat.lt_of_lt_of_le hl k.size, Nat.lt_of_lt_of_le hb k.size, (c 1).trans a1, (c 2).trans a2, (c 3).trans a3, (d 2).trans b2, (d 5).trans b5⟩
theorem heldK_alloc (o : Obj) (h : HeldK w w1 p pu ss ki se mr x) : HeldK w (w1.alloc o) p pu ss ki se mr x := heldK_new ((Turns.refl _ _).alloc o) h
end
theorem new_pre {w W wq : World} (h : New W wq) (k : New w W) : New w wq := k.trans (h.mono (fun _ _ h => h.elim))
theorem made_kb {w W wq : World} (h : New W wq) (hW : W.heap = (w.alloc (.cells zeroK.toArray KT)).heap) : Blk wq w.heap.size zeroK.toArray KT := by
  have h0 : Blk W w.heap.size zeroK.toArray KT := by unfold Blk; rw [hW]; exact Blk.new w _ _
  exact h.blk h0 (fun h => h)
theorem cells11 {w : World} {p : Nat} {a0 a1 a2 a3 a4 a5 a6 a7 a8 a9 a10 : Value} {t : TypeId} (h : Blk w p [a0, a1, a2, a3, a4, a5, a6, a7, a8, a9, a10].toArray t) :
    (w.cell? ⟨p, 0, none⟩ = some a0 ∧ w.cell? ⟨p, 1, none⟩ = some a1 ∧ w.cell? ⟨p, 2, none⟩ = some a2 ∧ w.cell? ⟨p, 3, none⟩ = some a3 ∧ w.cell? ⟨p, 4, none⟩ = some a4 ∧ w.cell? ⟨p, 5, none⟩ = some a5 ∧ w.cell? ⟨p, 6, none⟩ = some a6 ∧ w.cell? ⟨p, 7, none⟩ = some a7 ∧ w.cell? ⟨p, 8, none⟩ = some a8 ∧ w.cell? ⟨p, 9, none⟩ = some a9 ∧ w.cell? ⟨p, 10, none⟩ = some a10) :=
  ⟨h.cell 0, h.cell 1, h.cell 2, h.cell 3, h.cell 4, h.cell 5, h.cell 6, h.cell 7, h.cell 8, h.cell 9, h.cell 10⟩
theorem frees11 {w : World} {p : Nat} {a0 a1 a2 a3 a4 a5 a6 a7 a8 a9 a10 : Value} {t : TypeId} (h : Blk w p [a0, a1, a2, a3, a4, a5, a6, a7, a8, a9, a10].toArray t) :
    (w.frozen? ⟨p, 0, none⟩ = false ∧ w.frozen? ⟨p, 1, none⟩ = false ∧ w.frozen? ⟨p, 2, none⟩ = false ∧ w.frozen? ⟨p, 3, none⟩ = false ∧ w.frozen? ⟨p, 4, none⟩ = false ∧ w.frozen? ⟨p, 5, none⟩ = false ∧ w.frozen? ⟨p, 6, none⟩ = false ∧ w.frozen? ⟨p, 7, none⟩ = false ∧ w.frozen? ⟨p, 8, none⟩ = false ∧ w.frozen? ⟨p, 9, none⟩ = false ∧ w.frozen? ⟨p, 10, none⟩ = false) :=
  ⟨h.free 0, h.free 1, h.free 2, h.free 3, h.free 4, h.free 5, h.free 6, h.free 7, h.free 8, h.free 9, h.free 10⟩

set_option maxHeartbeats 1000000 in
theorem packet (p : Nat) (o : O) (u : U) (t : Int) (w : World) (h : Ot w p o) (ho : o.ok) (hs : u.x.size ≤ 1048576) :
    Calls Try.prog 26 #[.pointer (some ⟨p, 0, none⟩), .agg u.cs.toArray, .int .u32 t] w fun e w' => e = .returned (.agg (packK o u t).cs.toArray) ∧ At w w' p (packO o u) := by
  have HY := Lib.hid (fun w h => payload p o u.x w h ho hs)
  obtain ⟨hq0, hq1, _, _, _, _, _, _, hk0, hk1, hb0, hb1⟩ := ho
  have hps := pay_size o u.x
  have HE : Hid ((packK o u t).cs = [.bool u.mr, .int .u8 o.kind, .int .u16 o.seq, .int .u32 t, .int .u32 o.ssrc, .slice none 0 0, .bool false, .int .u16 0, .string ⟨#[]⟩, .string (pay o u.x), .int .i64 0] ∧ packO o u = { o with seq := IntKind.u16.wrap (o.seq + 1), pk := o.pk + 1, by_ := o.by_ + (pay o u.x).size }) := Lib.hid ⟨rfl, rfl⟩
  rw [HE.out.1, HE.out.2]
  clear HE
  have hpl := h.lt
  have HO := Lib.hid h
  generalize pay o u.x = y at *
  obtain ⟨ua, ut, um, us, uk, ux, utk⟩ := u
  dsimp only [U.cs] at *
  go_enter Try.func26, Try.ntmps26
  go_upto_region 1 with fail
  have bu : Blk ((w.alloc (.cells #[.int .i64 ua, .int .i64 ut, .bool um, .bool us, .bool uk, .string ux, .int .i64 utk] 62)).alloc (.cells #[.bool false, .int .u8 0, .int .u16 0, .int .u32 0, .int .u32 0, .slice none 0 0, .bool false, .int .u16 0, .string ⟨#[]⟩, .string ⟨#[]⟩, .int .i64 0] KT)) w.heap.size #[.int .i64 ua, .int .i64 ut, .bool um, .bool us, .bool uk, .string ux, .int .i64 utk] 62 := (Blk.new w _ _).alloc _
  have br := Blk.new (w.alloc (.cells #[.int .i64 ua, .int .i64 ut, .bool um, .bool us, .bool uk, .string ux, .int .i64 utk] 62)) #[.bool false, .int .u8 0, .int .u16 0, .int .u32 0, .int .u32 0, .slice none 0 0, .bool false, .int .u16 0, .string ⟨#[]⟩, .string ⟨#[]⟩, .int .i64 0] KT
  rw [World.size_alloc] at br
  have h3 := (HO.out.alloc (.cells #[.int .i64 ua, .int .i64 ut, .bool um, .bool us, .bool uk, .string ux, .int .i64 utk] 62)).alloc (.cells #[.bool false, .int .u8 0, .int .u16 0, .int .u32 0, .int .u32 0, .slice none 0 0, .bool false, .int .u16 0, .string ⟨#[]⟩, .string ⟨#[]⟩, .int .i64 0] KT)
  have n3 : New w ((w.alloc (.cells #[.int .i64 ua, .int .i64 ut, .bool um, .bool us, .bool uk, .string ux, .int .i64 utk] 62)).alloc (.cells #[.bool false, .int .u8 0, .int .u16 0, .int .u32 0, .int .u32 0, .slice none 0 0, .bool false, .int .u16 0, .string ⟨#[]⟩, .string ⟨#[]⟩, .int .i64 0] KT)) := ((Turns.refl _ _).alloc _).alloc _
  generalize (w.alloc (.cells #[.int .i64 ua, .int .i64 ut, .bool um, .bool us, .bool uk, .string ux, .int .i64 utk] 62)).alloc (.cells #[.bool false, .int .u8 0, .int .u16 0, .int .u32 0, .int .u32 0, .slice none 0 0, .bool false, .int .u16 0, .string ⟨#[]⟩, .string ⟨#[]⟩, .int .i64 0] KT) = w3 at *
  generalize hpr : w.heap.size + 1 = pr at *
  generalize hpu : w.heap.size = pu at *
  have HPU := Lib.hid (And.intro hpr hpu)
  have hrp : pr ≠ p := by omega
  have hpr3 := br.lt
  clear hpr hpu
  have hh : HeldK w3 w3 p pu o.ssrc o.kind o.seq um ux := ⟨Turns.refl _ _, h3.lt, bu.lt, h3.c1, h3.c2, h3.c3, bu.cell 2, bu.cell 5⟩
  have HH := Lib.hid hh
  have HO3 := Lib.hid h3
  have HN3 := Lib.hid n3
  have HR := Lib.hid br
  clear h HO bu br h3 n3
  generalize hss : o.ssrc = ss at *
  generalize hki : o.kind = ki at *
  generalize hse : o.seq = se at *
  have HSE := Lib.hid (And.intro hss (And.intro hki hse))
  clear hss hki hse
  go_cut [7] (fun v7 wx => ∃ pp, v7 = .pointer (some ⟨pp, 0, none⟩) ∧ New w3 wx ∧ w3.heap.size ≤ pp ∧ Blk wx pp [.bool um, .int .u8 ki, .int .u16 se, .int .u32 t, .int .u32 ss, .slice none 0 0, .bool false, .int .u16 0, .string ⟨#[]⟩, .string y, .int .i64 0].toArray KT)
  case first =>
    clear HSE
    go_region_held3 (fun w' => New w3 w' ∧ p < w'.heap.size ∧ pu < w'.heap.size ∧ w'.cell? ⟨p, 1, none⟩ = some (.int .u32 ss) ∧ w'.cell? ⟨p, 2, none⟩ = some (.int .u8 ki) ∧ w'.cell? ⟨p, 3, none⟩ = some (.int .u16 se) ∧ w'.cell? ⟨pu, 2, none⟩ = some (.bool um) ∧ w'.cell? ⟨pu, 5, none⟩ = some (.string ux))
      (first
        | (with_reducible assumption)
        | ((with_reducible refine heldK_drew ?_); with_reducible assumption)
        | ((with_reducible refine heldK_alloc _ ?_); with_reducible assumption)
        | ((with_reducible refine heldK_drew (heldK_alloc _ ?_)); with_reducible assumption)
        | ((with_reducible apply heldK_new hnq); with_reducible assumption)
        | ((with_reducible refine heldK_new ?_ HH.out); (repeat (first | (with_reducible refine Turns.alloc ?_ _) | (with_reducible refine Turns.drew ?_) | (with_reducible refine Turns.setCell ?_ (.inr (Nat.le_refl _)) _))); (with_reducible apply new_pre hnq); (repeat (first | (with_reducible refine Turns.alloc ?_ _) | (with_reducible refine Turns.drew ?_))); exact Turns.refl _ _))
      ((go_at_call 41; (with_reducible refine Calls.mono (HY.out _ ?_) ?_); (focus ((repeat (first | (with_reducible apply Ot.alloc) | (with_reducible apply Ot.drew))); exact HO3.out)); rintro en wq ⟨rfl, hnq⟩; (first | (have hpy := made_kb hnq rfl; obtain ⟨y0, y1, y2, y3, y4, y5, y6, y7, y8, y9, y10⟩ := cells11 hpy; obtain ⟨g0, g1, g2, g3, g4, g5, g6, g7, g8, g9, g10⟩ := frees11 hpy) | skip)))
    all_goals first
      | (have hbq := made_kb hnq rfl
         have hn0 : New w3 wq := new_pre hnq (by (repeat (first | (with_reducible refine Turns.alloc ?_ _) | (with_reducible refine Turns.drew ?_))); exact Turns.refl _ _)
         have HBQ := Lib.hid hbq
         clear hbq
         go_wp2_with fail
         go_meet
         case rel => exact ⟨_, rfl, puts_turns (.inr (Nat.le_refl _)) [.bool um, .int .u8 ki, .int .u16 se, .int .u32 t, .int .u32 ss, .slice none 0 0, .bool false, .int .u16 0, .string ⟨#[]⟩, .string y, .int .i64 0] 0 _ hn0, Nat.le_refl _, puts_blk zeroK [.bool um, .int .u8 ki, .int .u16 se, .int .u32 t, .int .u32 ss, .slice none 0 0, .bool false, .int .u16 0, .string ⟨#[]⟩, .string y, .int .i64 0] HBQ.out rfl⟩)
      | (go_wp2_with fail
         go_meet
         case rel => exact ⟨_, rfl, (Turns.of_drew hnq).alloc _, hnq.size, Blk.new _ _ _⟩)
  case rest =>
    obtain ⟨pp, rfl, n4, hpp, hbp⟩ := hcut
    have h4 := HO3.out.turns n4 (fun h => h)
    have hppp : pp ≠ p := by have := HO3.out.lt; omega
    have hprp : pr ≠ pp := by omega
    have c3 := h4.c3
    have c10 := h4.c10
    have f3 := h4.f 3
    have f10 := h4.f 10
    rw [HSE.out.2.2] at c3
    have h5 := (h4.s3 (IntKind.u16.wrap (se + 1))).s10 (o.pk + 1)
    have n5 : Turns (· = p) wc ((wc.setCell ⟨p, 3, none⟩ (.int .u16 (IntKind.u16.wrap (se + 1)))).setCell ⟨p, 10, none⟩ (.int .i64 (o.pk + 1))) := ((Turns.refl (· = p) wc).setCell (.inl rfl) _).setCell (.inl rfl) _
    have hb5 := n5.blk hbp hppp
    have hr5 := n5.blk (n4.blk HR.out (fun h => h)) hrp
    have N5 : Hid (Turns (· = p) w ((wc.setCell ⟨p, 3, none⟩ (.int .u16 (IntKind.u16.wrap (se + 1)))).setCell ⟨p, 10, none⟩ (.int .i64 (o.pk + 1)))) := Lib.hid ((HN3.out.mono (fun _ _ h => h.elim)).trans (((n4.mono (fun _ _ h => h.elim)).trans (n5.mono (fun _ _ h => .inl h))).mono (fun _ _ h => .inl h)))
    have H5 := Lib.hid h5
    clear hh HH h4 n5 hbp HR
    go_upto_region 4 with fail
    generalize (wc.setCell ⟨p, 3, none⟩ (.int .u16 (IntKind.u16.wrap (se + 1)))).setCell ⟨p, 10, none⟩ (.int .i64 (o.pk + 1)) = w5 at *
    clear c3 c10 f3 f10
    have c11 := H5.out.c11
    have f11 := H5.out.f 11
    have k9 : w5.cell? ⟨pp, 9, none⟩ = some (.string y) := hb5.cell 9
    dsimp only at c11
    have HB5 := Lib.hid hb5
    have HR5 := Lib.hid hr5
    have h6 := Lib.hid (H5.out.s11 (o.by_ + (y.size : Int)))
    clear hb5 hr5 h5
    generalize hby : o.by_ = by0 at *
    have HBY := Lib.hid hby
    clear hby
    go_region
    have n6 : Turns (· = p) w5 ((w5.setCell ⟨p, 11, none⟩ (.int .i64 (by0 + (y.size : Int)))).drew) := ((Turns.refl (· = p) w5).setCell (.inl rfl) _).drew
    have hb6 := n6.blk HB5.out hppp
    have hr6 := n6.blk HR5.out hrp
    have H6 := Lib.hid (h6.out.drew)
    have N6 := Lib.hid (N5.out.trans (n6.mono (fun _ _ h => .inl h)))
    clear n6 h6 c11 f11 k9
    generalize (w5.setCell ⟨p, 11, none⟩ (.int .i64 (by0 + (y.size : Int)))).drew = w6 at *
    obtain ⟨b0, b1, b2, b3, b4, b5, b6, b7, b8, b9, b10⟩ := cells11 hb6
    obtain ⟨r0, r1, r2, r3, r4, r5, r6, r7, r8, r9, r10⟩ := cells11 hr6
    obtain ⟨g0, g1, g2, g3, g4, g5, g6, g7, g8, g9, g10⟩ := frees11 hr6
    have hp9 : Blk (puts w6 pr 0 [.bool um, .int .u8 ki, .int .u16 se, .int .u32 t, .int .u32 ss, .slice none 0 0, .bool false, .int .u16 0, .string ⟨#[]⟩, .string y, .int .i64 0]) pr (List.toArray [.bool um, .int .u8 ki, .int .u16 se, .int .u32 t, .int .u32 ss, .slice none 0 0, .bool false, .int .u16 0, .string ⟨#[]⟩, .string y, .int .i64 0]) KT := puts_blk zeroK [.bool um, .int .u8 ki, .int .u16 se, .int .u32 t, .int .u32 ss, .slice none 0 0, .bool false, .int .u16 0, .string ⟨#[]⟩, .string y, .int .i64 0] hr6 rfl
    have ho9 := puts_other hrp [.bool um, .int .u8 ki, .int .u16 se, .int .u32 t, .int .u32 ss, .slice none 0 0, .bool false, .int .u16 0, .string ⟨#[]⟩, .string y, .int .i64 0] 0 w6 H6.out
    have hn9 : Turns (· = p) w (puts w6 pr 0 [.bool um, .int .u8 ki, .int .u16 se, .int .u32 t, .int .u32 ss, .slice none 0 0, .bool false, .int .u16 0, .string ⟨#[]⟩, .string y, .int .i64 0]) := puts_turns (.inr (by have := HPU.out; omega)) [.bool um, .int .u8 ki, .int .u16 se, .int .u32 t, .int .u32 ss, .slice none 0 0, .bool false, .int .u16 0, .string ⟨#[]⟩, .string y, .int .i64 0] 0 w6 N6.out
    have H9 := Lib.hid (And.intro ho9 hn9)
    clear ho9 hn9 hb6 hr6 HB5 HR5
    go_wp2_with fail
    refine (show bodyPost _ _ _ _ _ (puts w6 pr 0 [.bool um, .int .u8 ki, .int .u16 se, .int .u32 t, .int .u32 ss, .slice none 0 0, .bool false, .int .u16 0, .string ⟨#[]⟩, .string y, .int .i64 0]) from ?_)
    generalize puts w6 pr 0 [.bool um, .int .u8 ki, .int .u16 se, .int .u32 t, .int .u32 ss, .slice none 0 0, .bool false, .int .u16 0, .string ⟨#[]⟩, .string y, .int .i64 0] = w9 at *
    obtain ⟨q0, q1, q2, q3, q4, q5, q6, q7, q8, q9, q10⟩ := cells11 hp9
    refine bodyPost_ret (v := .agg (List.toArray [.bool um, .int .u8 ki, .int .u16 se, .int .u32 t, .int .u32 ss, .slice none 0 0, .bool false, .int .u16 0, .string ⟨#[]⟩, .string y, .int .i64 0])) (by simp [results, Try.results26, go_sem, q0, q1, q2, q3, q4, q5, q6, q7, q8, q9, q10]) rfl ?_
    obtain ⟨e1, e2, e3⟩ := HSE.out
    refine ⟨by rw [e1, e2, e3], ?_, H9.out.2⟩
    rw [e3, HBY.out]
    exact H9.out.1
end Go.Proofs.Ytijpgkkhjjpjoaa.rew
