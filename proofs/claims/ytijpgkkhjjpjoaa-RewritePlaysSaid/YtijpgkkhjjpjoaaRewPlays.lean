/-
  RewritePlays: any frames of any sources.
-/
import Derived.Test.YtijpgkkhjjpjoaaRewRef3
import Derived.Test.YtijpgkkhjjpjoaaRpSame2
import Derived.Test.YtijpgkkhjjpjoaaRewStreamM
import Derived.Deep.QuietTactic
import Derived.BigQuiet
namespace Go.Proofs.Ytijpgkkhjjpjoaa.rew
open Go.RowKit mem
open Go.Proofs.Ytijpgkkhjjpjoaa.args (Wact StrsAt)
set_option linter.unusedVariables false

/-- eleven cells twice -/
abbrev HeldV (w w' : World) (g2 g3 j : Nat) (um : Bool) (qk qs qt qc : Int) (y : ByteArray) : Prop :=
  New w w' ∧ g2 < w'.heap.size ∧ g3 < w'.heap.size ∧ w'.cell? ⟨g2, j * 11, none⟩ = some (.bool um) ∧ w'.cell? ⟨g2, j * 11 + 1, none⟩ = some (.int .u8 qk) ∧ w'.cell? ⟨g2, j * 11 + 2, none⟩ = some (.int .u16 qs) ∧ w'.cell? ⟨g2, j * 11 + 3, none⟩ = some (.int .u32 qt) ∧ w'.cell? ⟨g2, j * 11 + 4, none⟩ = some (.int .u32 qc) ∧ w'.cell? ⟨g2, j * 11 + 5, none⟩ = some (.slice none 0 0) ∧ w'.cell? ⟨g2, j * 11 + 6, none⟩ = some (.bool false) ∧ w'.cell? ⟨g2, j * 11 + 7, none⟩ = some (.int .u16 0) ∧ w'.cell? ⟨g2, j * 11 + 8, none⟩ = some (.string ⟨#[]⟩) ∧ w'.cell? ⟨g2, j * 11 + 9, none⟩ = some (.string y) ∧ w'.cell? ⟨g2, j * 11 + 10, none⟩ = some (.int .i64 0) ∧ w'.cell? ⟨g3, j * 11, none⟩ = some (.bool um) ∧ w'.cell? ⟨g3, j * 11 + 1, none⟩ = some (.int .u8 qk) ∧ w'.cell? ⟨g3, j * 11 + 2, none⟩ = some (.int .u16 qs) ∧ w'.cell? ⟨g3, j * 11 + 3, none⟩ = some (.int .u32 qt) ∧ w'.cell? ⟨g3, j * 11 + 4, none⟩ = some (.int .u32 qc) ∧ w'.cell? ⟨g3, j * 11 + 5, none⟩ = some (.slice none 0 0) ∧ w'.cell? ⟨g3, j * 11 + 6, none⟩ = some (.bool false) ∧ w'.cell? ⟨g3, j * 11 + 7, none⟩ = some (.int .u16 0) ∧ w'.cell? ⟨g3, j * 11 + 8, none⟩ = some (.string ⟨#[]⟩) ∧ w'.cell? ⟨g3, j * 11 + 9, none⟩ = some (.string y) ∧ w'.cell? ⟨g3, j * 11 + 10, none⟩ = some (.int .i64 0)
section
variable {w w1 w2 : World} {g2 g3 j : Nat} {um : Bool} {qk qs qt qc : Int} {y : ByteArray}
theorem heldV_drew (h : HeldV w w1 g2 g3 j um qk qs qt qc y) : HeldV w w1.drew g2 g3 j um qk qs qt qc y := by
  obtain ⟨hn, h⟩ := h
  exact ⟨hn.drew, h⟩
theorem heldV_new (k : New w1 w2) (h : HeldV w w1 g2 g3 j um qk qs qt qc y) : HeldV w w2 g2 g3 j um qk qs qt qc y := by
  obtain ⟨hn, hl, hb, a0, a1, a2, a3, a4, a5, a6, a7, a8, a9, a10, b0, b1, b2, b3, b4, b5, b6, b7, b8, b9, b10⟩ := h
  have c := fun i => k.cell (a := ⟨g2, i, none⟩) hl (fun h => h)
  have d := fun i => k.cell (a := ⟨g3, i, none⟩) hb (fun h => h)
  exact ⟨hn.trans (k.mono (fun _ _ h => h.elim)), Nat.lt_of_lt_of_le hl k.size, Nat.lt_of_lt_of_le hb k.size, (c _).trans a0, (c _).trans a1, (c _).trans a2, (c _).trans a3, (c _).trans a4, (c _).trans a5, (c _).trans a6, (c _).trans a7, (c _).trans a8, (c _).trans a9, (c _).trans a10, (d _).trans b0, (d _).trans b1, (d _).trans b2, (d _).trans b3, (d _).trans b4, (d _).trans b5, (d _).trans b6, (d _).trans b7, (d _).trans b8, (d _).trans b9, (d _).trans b10⟩
end
theorem sameK (k : K) (w : World) :
    Calls Try.prog 13 #[.agg k.cs.toArray, .agg k.cs.toArray] w fun e w' => e = .returned (.int .i64 0) ∧ New w w' :=
  rp.same ⟨k.mr, k.kind, k.seq, k.time, k.ssrc, [], false, 0, ⟨#[]⟩, k.x, 0⟩ none none 0 0 w (.inl rfl) (.inl rfl) (Nat.zero_le _)
theorem checkK (k : K) (w : World) (h0 : 0 ≤ k.kind) (h1 : k.kind ≤ 127) (q0 : 0 ≤ k.seq) (q1 : k.seq ≤ 65535) (t0 : 0 ≤ k.time) (t1 : k.time < 4294967296) (s0 : 0 ≤ k.ssrc) (s1 : k.ssrc ≤ 4294967295) (hx : k.x.size ≤ 1000) :
    Calls Try.prog 14 #[.agg k.cs.toArray] w fun e w' => e = .returned (.int .i64 0) ∧ New w w' := by
  have hf : rp.F ⟨k.mr, k.kind, k.seq, k.time, k.ssrc, [], false, 0, ⟨#[]⟩, k.x, 0⟩ := ⟨⟨h0, by show k.kind ≤ 255; omega⟩, ⟨q0, q1⟩, ⟨t0, by show k.time ≤ 4294967295; omega⟩, ⟨s0, s1⟩, (fun x hx => by cases hx), Nat.zero_le _, (by decide : (0 : Int) ≤ 0 ∧ (0 : Int) ≤ 65535), (by decide : (-2 : Int) ≤ 0 ∧ (0 : Int) ≤ 300), Nat.zero_le _, by show k.x.size ≤ 1500; omega⟩
  have h := rp.check ⟨k.mr, k.kind, k.seq, k.time, k.ssrc, [], false, 0, ⟨#[]⟩, k.x, 0⟩ hf none 0 w
  have hc : rp.chk ⟨k.mr, k.kind, k.seq, k.time, k.ssrc, [], false, 0, ⟨#[]⟩, k.x, 0⟩ = 0 := by
    have h2 : ¬ (127 : Int) < k.kind := by omega
    have h3 : (⟨#[]⟩ : ByteArray).size = 0 := rfl
    simp [rp.chk, rp.lenI, h2, h3]
    omega
  rw [hc] at h
  exact h

/-- what the loop holds -/
structure Pp (w wr : World) (k p px : Nat) (T S La ss kd : Int) (v : Bool) (o : O) : Prop where
  t0 : 0 ≤ T
  t1 : T ≤ 100000 + 65535 * (k : Int)
  S0 : -5000000 ≤ S
  S1 : S ≤ 5000000 * ((k : Int) + 1)
  L0 : 0 ≤ La
  L1 : La ≤ 5000000 * ((k : Int) + 1)
  b : Bd o k (4 * k)
  ss : o.ssrc = ss
  kd : o.kind = kd
  lk : Lk o S La
  s : Ot wr p o
  x : Blk wr px (rcs o S La).toArray OR
  n : New w wr
  le : w.heap.size ≤ p
  lt : p < px

theorem Pp.drewN {w wr : World} {k p px : Nat} {T S La ss kd : Int} {v : Bool} {o : O} (h : Pp w wr k p px T S La ss kd v o) (n : Nat) : Pp w (wr.drewN n) k p px T S La ss kd v o :=
  ⟨h.t0, h.t1, h.S0, h.S1, h.L0, h.L1, h.b, h.ss, h.kd, h.lk, h.s, h.x, h.n.drewN n, h.le, h.lt⟩
theorem frameO_ids (o : O) (s : Int) (l : List U) : (frameO o s l).ssrc = o.ssrc ∧ (frameO o s l).kind = o.kind := by
  cases l with
  | nil => exact ⟨rfl, rfl⟩
  | cons u l =>
    have k := packs_keep (u :: l) (midO o s u)
    have m : (midO o s u).ssrc = o.ssrc ∧ (midO o s u).kind = o.kind := by
      unfold midO countO levO timeO
      repeat (first | exact ⟨rfl, rfl⟩ | split)
    exact ⟨k.2.2.2.2.2.2.1.trans m.1, k.2.2.2.2.2.2.2.trans m.2⟩
/-- every packet of a frame is one that may be -/
theorem frameK_ok (o : O) (s : Int) (l : List U) (hq0 : 0 ≤ o.seq) (hq1 : o.seq ≤ 65535) (hx : ∀ (j : Nat) (u : U), l[j]? = some u → u.x.size ≤ 60) (j : Nat) (x : K) (h : (frameK o s l)[j]? = some x) :
    x.ssrc = o.ssrc ∧ x.kind = o.kind ∧ 0 ≤ x.seq ∧ x.seq ≤ 65535 ∧ 0 ≤ x.time ∧ x.time < 4294967296 ∧ x.x.size ≤ 66 := by
  cases l with
  | nil => simp [frameK] at h
  | cons u l =>
    have hj : j < (u :: l).length := by have := (List.getElem?_eq_some_iff.1 h).1; rwa [frameK_len] at this
    have m : (midO o s u).ssrc = o.ssrc ∧ (midO o s u).kind = o.kind ∧ (midO o s u).seq = o.seq := by
      unfold midO countO levO timeO
      repeat (first | exact ⟨rfl, rfl, rfl⟩ | split)
    have a := packs_all (timeV o s u.t) (u :: l) (midO o s u) j x (by rw [m.2.2]; exact hq0) (by rw [m.2.2]; exact hq1) h
    have tb : 0 ≤ timeV o s u.t ∧ timeV o s u.t < 4294967296 := by unfold timeV shV; split <;> omega
    have hu : (u :: l)[j]? = some (u :: l)[j] := List.getElem?_eq_getElem hj
    have hb := packs_at (u :: l) j _ hu (midO o s u) (timeV o s u.t)
    have hxx : x = packK (packsO (midO o s u) ((u :: l).take j)) (u :: l)[j] (timeV o s u.t) := by
      have h2 : (packs (midO o s u) (timeV o s u.t) (u :: l))[j]? = some x := h
      rw [hb] at h2; exact (Option.some.inj h2).symm
    have hp := pay_size (packsO (midO o s u) ((u :: l).take j)) (u :: l)[j].x
    have h60 := hx j _ hu
    refine ⟨a.1.trans m.1, a.2.1.trans m.2.1, by rw [a.2.2.2]; omega, by rw [a.2.2.2]; omega, by rw [a.2.2.1]; exact tb.1, by rw [a.2.2.1]; exact tb.2, ?_⟩
    rw [hxx]
    show (pay (packsO (midO o s u) ((u :: l).take j)) (u :: l)[j].x).size ≤ 66
    omega
theorem told_is {o : O} {S La : Int} (h : Lk o S La) (hf : 0 ≤ o.fr) (a : Int) (s : Int) (hl : lastB o s = true) : shV o a = (a + S) % 4294967296 := by
  have hp : 0 < o.fr := by unfold lastB at hl; simp at hl; exact hl.1
  unfold shV
  rw [(h.f1 hp).2]; omega

set_option maxHeartbeats 4000000 in
set_option maxRecDepth 100000 in
theorem plays_law (v : Bool) (ss kd sq : Int) (a : Option Addr) (n c : Nat) (z : Nat → Wact) (w : World) (s0 : 0 ≤ ss) (s1 : ss ≤ 4294967295) (k0 : 0 ≤ kd) (k1 : kd ≤ 255) (q0 : 0 ≤ sq) (q1 : sq ≤ 65535) (hz : args.wactRow w a n c z) :
    Calls Try.prog 3 #[.bool v, .int .u32 ss, .int .u8 kd, .int .u16 sq, .slice a n c] w fun e w' => e = .returned (.bool true) ∧ Below w.heap.size w w' := by
  obtain ⟨hn, hwf, hcell⟩ := hz
  unfold maxLen at hn
  have HW := Lib.hid hwf
  have HC := Lib.hid hcell
  clear hwf hcell
  have HN := Lib.hid (fun w => new v ss kd sq w k0)
  have t1 : Int.tmod kd 128 = kd % 128 := Int.tmod_eq_emod_of_nonneg k0
  have s2 : IntKind.i64.wrap sq = sq := IntWalk.i64_in _ (by omega)
  go_enter Try.func3, Try.ntmps3
  go_wp2_with fail
  refine (awake w).mono ?_
  rintro e w1 ⟨rfl, h1⟩
  have N1 := Lib.hid h1
  clear h1
  go_wp2_with fail
  refine (HN.out _).mono ?_
  rintro e w2 ⟨rfl, h2, n2⟩
  have hle : w.heap.size ≤ w1.heap.size := N1.out.size
  have HK0 : Hid (Pp w (w2.alloc (.cells (rcs (fresh v ss kd sq) 0 0).toArray OR)) 0 w1.heap.size w2.heap.size 100000 0 0 ss (kd % 128) v (fresh v ss kd sq)) := Lib.hid
    ⟨by omega, by omega, by omega, by omega, by omega, by omega, fresh_bd _ _ _ _ q0 q1, rfl, rfl, ⟨fun _ => rfl, fun h => by have h' : (0 : Int) < 0 := h; omega⟩, h2.alloc _, Blk.new _ _ _, (N1.out.trans (n2.mono (fun _ _ h => h.elim))).alloc _, hle, h2.lt⟩
  clear n2 HN h2
  generalize w1.heap.size = p at *
  clear N1
  go_upto_region 5 with fail
  refine (show Code.wp _ _ _ _ (w2.alloc (.cells (rcs (fresh v ss kd sq) 0 0).toArray OR)) from ?_)
  generalize w2.alloc (.cells (rcs (fresh v ss kd sq) 0 0).toArray OR) = w3 at *
  generalize w2.heap.size = px at *
  go_wp2_with fail
  go_loopw [13, 14] (fun tm i wr => ∃ k : Nat, ∃ T S La : Int, ∃ o : O, k ≤ n ∧ k ≤ 60 ∧ tm = .int .i64 T ∧ i = .int .i64 k ∧ Pp w wr k p px T S La ss (kd % 128) v o) (fun _ i _ => n - (intOf i).toNat)
  case atStart => exact ⟨0, _, _, _, _, Nat.zero_le _, by omega, rfl, rfl, HK0.out⟩
  case round =>
    obtain ⟨k, T, S, La, o, hk, hk60, rfl, rfl, hpp⟩ := hrel
    clear HK0 t1 s2
    by_cases hgo : k < n ∧ k < 60
    · obtain ⟨hlt, hlt2⟩ := hgo
      obtain ⟨b, off, rfl, hb, hcell⟩ := HC.out.resolve_left (by omega)
      obtain ⟨c0, c1, c2, c3⟩ := hcell k hlt
      obtain ⟨_, _, hstr⟩ := HW.out k hlt
      have hnw := hpp.n
      have r0 := (hnw.cell hb (fun h => h)).trans c0
      have r1 := (hnw.cell (a := ⟨b, off + k * 4 + 1, none⟩) hb (fun h => h)).trans c1
      have r2 := (hnw.cell (a := ⟨b, off + k * 4 + 2, none⟩) hb (fun h => h)).trans c2
      have r3 := (hnw.cell (a := ⟨b, off + k * 4 + 3, none⟩) hb (fun h => h)).trans c3
      have hstr2 : ∀ w', New w w' → StrsAt w' (z k).ta (z k).tn (z k).tz := fun w' hw' => by
        obtain ⟨s1, s2, s3⟩ := hstr
        refine ⟨s1, s2, ?_⟩
        rcases s3 with s3 | ⟨b', off', e, hb', hc'⟩
        · exact .inl s3
        · exact .inr ⟨b', off', e, Nat.lt_of_lt_of_le hb' hw'.size, fun i hi => (hw'.cell (a := ⟨b', off' + i, none⟩) hb' (fun h => h)).trans (hc' i hi)⟩
      have hT0 := hpp.t0
      have hT1 := hpp.t1
      have hbd := later_bd T (z k) hT0
      have HLT := Lib.hid (fun w => later T (z k) w hT0 (by omega))
      have HMD := Lib.hid (fun w' hw' => made (z k) (laterV T (z k)) w' (hstr2 w' hw'))
      have HS := Lib.hid hpp
      have hple := hpp.le
      have hplt := hpp.lt
      have hpxl := hpp.x.lt
      clear hcell HC HW c0 c1 c2 c3 hstr hstr2 hpp hnw
      generalize z k = y at *
      generalize laterV T y = T' at *
      have kn : (k : Int) < (n : Int) := by omega
      have k0' : (0 : Int) ≤ (k : Int) := by omega
      have hd : decide ((k : Int) < 60) = true := by simp; omega
      go_upto_region 10 with fail
      have ba : Blk (wr.alloc (.cells #[.int .i64 y.src, .int .i64 y.lat, .bool y.back, .slice y.ta y.tn y.tc] AT)) wr.heap.size #[.int .i64 y.src, .int .i64 y.lat, .bool y.back, .slice y.ta y.tn y.tc] AT := Blk.new _ _ _
      have n4 : New wr (wr.alloc (.cells #[.int .i64 y.src, .int .i64 y.lat, .bool y.back, .slice y.ta y.tn y.tc] AT)) := (Turns.refl _ _).alloc _
      have hpaw : px < wr.heap.size := hpxl
      clear r0 r1 r2 r3
      generalize wr.alloc (.cells #[.int .i64 y.src, .int .i64 y.lat, .bool y.back, .slice y.ta y.tn y.tc] AT) = w4 at *
      generalize hpa : wr.heap.size = pa at *
      have HPA := Lib.hid hpa
      clear hpa
      obtain ⟨a0, a1, a2, a3⟩ : _ ∧ _ ∧ _ ∧ _ := ⟨ba.cell 0, ba.cell 1, ba.cell 2, ba.cell 3⟩
      go_wp2_with fail
      refine (HLT.out _).mono ?_
      rintro e w5 ⟨rfl, n5⟩
      have ba5 := n5.blk ba (fun h => h)
      have N5 := n4.trans (n5.mono (fun _ _ h => h.elim))
      clear ba n4 n5 HLT a0 a1 a2 a3
      obtain ⟨a0, a1, a2, a3⟩ : _ ∧ _ ∧ _ ∧ _ := ⟨ba5.cell 0, ba5.cell 1, ba5.cell 2, ba5.cell 3⟩
      go_wp2_with fail
      refine (HMD.out _ (HS.out.n.trans (N5.mono (fun _ _ h => h.elim)))).mono ?_
      rintro e w6 ⟨v1, v2, rfl, o1, o2, b1, b2, n6⟩
      have hmt := made_t y T' (min y.tn 4)
      have hmx := made_x y T' (min y.tn 4)
      have hmem := made_mem y T' (min y.tn 4)
      have hlen := madeL_len y T' (min y.tn 4)
      have hN4 : (madeL y T' (min y.tn 4)).length ≤ 4 := by rw [hlen]; omega
      obtain ⟨ao1, cc1, rfl, _, rd1, ob1⟩ := o1.form
      obtain ⟨ao2, cc2, rfl, _, rd2, ob2⟩ := o2.form
      have ba6 := n6.blk ba5 (fun h => h)
      have N6 := N5.trans (n6.mono (fun _ _ h => h.elim))
      have hw56 : wr.heap.size ≤ w5.heap.size := N5.size
      have hg1 : ∀ g, ao1 = some ⟨g, 0, none⟩ → px < g := fun g hg => by have := b1 g (ob1 g hg); have := HPA.out; omega
      have hg2 : ∀ g, ao2 = some ⟨g, 0, none⟩ → px < g := fun g hg => by have := b2 g (ob2 g hg); have := HPA.out; omega
      clear hlen o1 o2 HMD ba5 N5 n6 a0 a1 a2 a3 ob1 ob2 b1 b2
      generalize madeL y T' (min y.tn 4) = L at *
      obtain ⟨N, hN⟩ : ∃ N, L.length = N := ⟨_, rfl⟩
      rw [hN] at hN4
      have HNN := Lib.hid hN
      rw [hN]
      go_upto_region 12 with fail
      have bf : Blk (w6.alloc (.cells #[.slice ao1 N cc1] FT)) w6.heap.size #[.slice ao1 N cc1] FT := Blk.new _ _ _
      have n7 : New w6 (w6.alloc (.cells #[.slice ao1 N cc1] FT)) := (Turns.refl _ _).alloc _
      have ba7 := ba6.alloc (.cells #[.slice ao1 N cc1] FT)
      have rd17 := rd1.turns n7 (fun _ _ h => h)
      have rd27 := rd2.turns n7 (fun _ _ h => h)
      have N7 := N6.trans (n7.mono (fun _ _ h => h.elim))
      have hw6 : pa < w6.heap.size := ba6.lt
      clear ba6 rd1 rd2 N6 n7
      generalize w6.alloc (.cells #[.slice ao1 N cc1] FT) = w7 at *
      generalize w6.heap.size = pf at *
      have o7 := HS.out.s.turns N7 (fun h => h)
      have x7 := N7.blk HS.out.x (fun h => h)
      have a0 : w7.cell? ⟨pa, 0, none⟩ = some (.int .i64 y.src) := ba7.cell 0
      have f0 : w7.cell? ⟨pf, 0, none⟩ = some (.slice ao1 N cc1) := bf.cell 0
      have hapP : pa ≠ p := by omega
      have hfpP : pf ≠ p := by omega
      have hxpP : px ≠ p := by omega
      have HFR := Lib.hid ((frame p o y.src ao1 cc1 L k (4 * k) w7 o7 HS.out.b (by omega) (by omega) (by omega) hmem rd17 (fun g hg e => by have := hg1 g hg; omega)).mono (fun _ _ h => res_l h))
      rw [hN] at HFR
      clear o7 rd17 hg1
      go_wp2_with fail
      refine HFR.out.mono ?_
      rintro e w8 ⟨ao3, cc3, rfl, rd3, hg3, at8⟩
      rw [frameK_len, hN]
      have ba8 := at8.2.blk ba7 hapP
      have x8 := at8.2.blk x7 hxpP
      have rd28 := rd27.turns at8.2 (fun g hg e => by have := hg2 g hg; omega)
      have N8 : New w w8 := new_at (HS.out.n.trans (N7.mono (fun _ _ h => h.elim))) at8 hple
      have hT : ∀ u ∈ L, u.t = T' := fun u hu => by obtain ⟨j, hj⟩ := List.mem_iff_getElem?.1 hu; exact hmt j u hj
      have hkb : (k : Int) ≤ 60 := by omega
      have hS0 := HS.out.S0
      have hS1 := HS.out.S1
      have hL0 := HS.out.L0
      have hL1 := HS.out.L1
      have HRF := Lib.hid (rframe o S La y.src ao2 cc2 L k (4 * k) w8 HS.out.b (by omega) (by omega) (by omega) hmem rd28 (by omega) (by omega) hL0 (by omega) T' hbd.1 (by omega) hT HS.out.lk)
      rw [hN] at HRF
      obtain ⟨S', hS'⟩ : ∃ S', (if N = 0 then S else tS o S La y.src T') = S' := ⟨_, rfl⟩
      obtain ⟨La', hL'⟩ : ∃ La', (if N = 0 then La else tL o S La y.src T') = La' := ⟨_, rfl⟩
      rw [hS', hL'] at HRF
      have bS : -5000000 ≤ S' ∧ S' ≤ 5000000 * (((k + 1 : Nat) : Int) + 1) := by
        rw [← hS']
        split
        · omega
        · unfold tS; split
          · omega
          · split <;> omega
      have bL : 0 ≤ La' ∧ La' ≤ 5000000 * (((k + 1 : Nat) : Int) + 1) := by
        rw [← hL']
        split
        · omega
        · unfold tL; split
          · omega
          · split <;> omega
      have hlk' : Lk (frameO o y.src L) S' La' := by
        cases hL : L with
        | nil =>
          have hN0 : N = 0 := by rw [← hN, hL]; rfl
          rw [← hS', ← hL', if_pos hN0, if_pos hN0]
          exact HS.out.lk
        | cons u l =>
          have hN0 : ¬ N = 0 := by rw [← hN, hL]; simp
          rw [← hS', ← hL', if_neg hN0, if_neg hN0]
          have hu : u.t = T' := hT u (by rw [hL]; simp)
          rw [← hu]
          exact lk_next HS.out.lk HS.out.b.f0 y.src u l
      have hids := frameO_ids o y.src L
      have hB' := (HS.out.b.frame y.src L hmem).mono (Nat.le_refl (k + 1)) (show 4 * k + L.length ≤ 4 * (k + 1) by omega)
      have hKok := frameK_ok o y.src L HS.out.b.q0 HS.out.b.q1 hmx
      have hlenK : (frameK o y.src L).length = N := by rw [frameK_len, hN]
      have HAL := Lib.hid (And.intro hlk' (And.intro hids hB'))
      have HKK := Lib.hid (And.intro hKok hlenK)
      have HSK := Lib.hid (And.intro HS.out.ss HS.out.kd)
      have o8 := at8.1
      have hpx7 := x7.lt
      clear hS' hL' hlk' hids hB' hKok hlenK rd27 rd28 hg2 hmt hmx hmem hT x7 ba7 N7 at8 HFR f0 a0 bf hS0 hS1 hL0 hL1
      generalize frameO o y.src L = o' at *
      generalize frameK o y.src L = KK at *
      have a0 : w8.cell? ⟨pa, 0, none⟩ = some (.int .i64 y.src) := ba8.cell 0
      obtain ⟨b0, b1, b2, b3, b4, b5, b6, b7, b8, b9, b10, b11⟩ := cells12 x8
      go_wp2_with fail
      refine HRF.out.mono ?_
      rintro e w9 ⟨v4, rfl, ow9, n9, hg4⟩
      have ba9 := n9.blk ba8 (fun h => h)
      have x9 := n9.blk x8 (fun h => h)
      have o9 := o8.turns n9 (fun h => h)
      have N9 := N8.trans (n9.mono (fun _ _ h => h.elim))
      have rd39 := rd3.turns n9 (fun _ _ h => h)
      have hw78 : px < w8.heap.size := x8.lt
      clear b0 b1 b2 b3 b4 b5 b6 b7 b8 b9 b10 b11 ba8 x8 o8 N8 n9 rd3 a0 HRF
      go_upto_region 14 with fail
      have bx : Blk (w9.alloc (.cells (rcs o' S' La').toArray OR)) w9.heap.size (rcs o' S' La').toArray OR := Blk.new _ _ _
      have n10 : New w9 (w9.alloc (.cells (rcs o' S' La').toArray OR)) := (Turns.refl _ _).alloc _
      have ba10 := n10.blk ba9 (fun h => h)
      have x10 := n10.blk x9 (fun h => h)
      have o10 := o9.turns n10 (fun h => h)
      have N10 := N9.trans (n10.mono (fun _ _ h => h.elim))
      have rd310 := rd39.turns n10 (fun _ _ h => h)
      have ow10 := ow9.turns n10 (fun _ _ h => h)
      have hpa9 : pa < w9.heap.size := ba9.lt
      have hpx9 : px < w9.heap.size := x9.lt
      clear ba9 x9 o9 N9 rd39 ow9 n10
      refine (show Code.wp _ _ _ _ (w9.alloc (.cells (rcs o' S' La').toArray OR)) from ?_)
      generalize w9.alloc (.cells (rcs o' S' La').toArray OR) = w10 at *
      generalize w9.heap.size = py at *
      obtain ⟨b0, b1, b2, b3, b4, b5, b6, b7, b8, b9, b10, b11⟩ := cells12 bx
      obtain ⟨x0, x1, x2, x3, x4, x5, x6, x7, x8, x9, x10', x11⟩ := cells12 x10
      obtain ⟨f0, f1, f2, f3, f4, f5, f6, f7, f8, f9, f10, f11⟩ := frees12 x10
      have hpxa : px ≠ pa := by omega
      have ht11 : Turns (· = px) w10 (puts w10 px 0 (rcs o' S' La')) := puts_turns (S := (· = px)) (a := w10) (p := px) (.inl rfl) _ 0 w10 (Turns.refl _ _)
      have x11' : Blk (puts w10 px 0 (rcs o' S' La')) px (rcs o' S' La').toArray OR := puts_blk _ _ x10 rfl
      have o11 := o10.turns ht11 (fun e => hxpP e.symm)
      have ba11 := ht11.blk ba10 (fun e => hpxa e.symm)
      have N11 : New w (puts w10 px 0 (rcs o' S' La')) := N10.trans (ht11.mono (fun _ _ e => .inr (by rw [e]; omega)))
      have rd311 := rd310.turns ht11 (fun g hg e => by have := hg3 g hg; omega)
      have ow11 := ow10.turns ht11 (fun g hg e => by have := hg4 g hg; omega)
      have HPN : Hid (Pp w (puts w10 px 0 (rcs o' S' La')) (k + 1) p px T' S' La' ss (kd % 128) v o') := Lib.hid ⟨hbd.1, by have := hbd.2; omega, bS.1, bS.2, bL.1, bL.2, HAL.out.2.2, HAL.out.2.1.1.trans HSK.out.1, HAL.out.2.1.2.trans HSK.out.2, HAL.out.1, o11, x11', N11, hple, hplt⟩
      have HRD := Lib.hid (And.intro rd311 (And.intro ow11 ba11))
      clear ht11 x11' o11 ba11 N11 rd311 ow11 ba10 x10 o10 N10 rd310 ow10 bx
      go_upto_region 15 with fail
      refine (show Code.wp _ _ _ _ (puts w10 px 0 (rcs o' S' La')) from ?_)
      generalize puts w10 px 0 (rcs o' S' La') = w11 at *
      clear b0 b1 b2 b3 b4 b5 b6 b7 b8 b9 b10 b11 x0 x1 x2 x3 x4 x5 x6 x7 x8 x9 x10' x11 f0 f1 f2 f3 f4 f5 f6 f7 f8 f9 f10 f11
      obtain ⟨rd, ow, ba⟩ := HRD.out
      obtain ⟨ao4, cc4, hv4, _, rd4, _⟩ := ow.form
      rw [HKK.out.2] at hv4
      subst hv4
      have HR2 := Lib.hid (And.intro rd rd4)
      have a0 : w11.cell? ⟨pa, 0, none⟩ = some (.int .i64 y.src) := ba.cell 0
      have HBA := Lib.hid ba
      clear rd ow ba HRD rd4
      go_wp2_with fail
      go_loopw [85] (fun idx w' => ∃ j : Nat, j ≤ N ∧ idx = .int .i64 j ∧ New w11 w') (fun idx _ => N - (intOf idx).toNat)
      case atStart => exact ⟨0, Nat.zero_le _, rfl, Turns.refl _ _⟩
      case round =>
        obtain ⟨j, hj, rfl, hn2⟩ := hrel
        by_cases hjn : j < N
        · have hju : j < KK.length := by rw [HKK.out.2]; exact hjn
          obtain ⟨x, hx⟩ : ∃ x, KK[j]? = some x := ⟨KK[j], List.getElem?_eq_getElem hju⟩
          have hok := HKK.out.1 j x hx
          obtain ⟨rd, rd4⟩ := HR2.out
          rcases rd.turns hn2 (fun _ _ h => h) with hxx | ⟨g2, rfl, hg2l, hc2⟩
          · rw [hxx] at hju; simp at hju
          rcases rd4.turns hn2 (fun _ _ h => h) with hxx | ⟨g3, rfl, hg3l, hc3⟩
          · rw [hxx] at hju; simp at hju
          have hcc2 := hc2 j x hx
          have hcc3 := hc3 j x hx
          have HSM := Lib.hid (fun w => sameK x w)
          have HSK2 := HSK.out
          have HCK := Lib.hid (fun w => checkK x w (by rw [hok.2.1, HSK2.2]; omega) (by rw [hok.2.1, HSK2.2]; omega) hok.2.2.1 hok.2.2.2.1 hok.2.2.2.2.1 hok.2.2.2.2.2.1 (by rw [hok.1, HSK2.1]; exact s0) (by rw [hok.1, HSK2.1]; exact s1) (by have := hok.2.2.2.2.2.2; omega))
          clear HSK2 hok hx hju rd rd4 hc2 hc3 a0
          obtain ⟨um, qk, qs, qt, qc, y2⟩ := x
          have hh : HeldV wr wr g2 g3 j um qk qs qt qc y2 := ⟨Turns.refl _ _, hg2l, hg3l, hcc2 0 _ rfl, hcc2 1 _ rfl, hcc2 2 _ rfl, hcc2 3 _ rfl, hcc2 4 _ rfl, hcc2 5 _ rfl, hcc2 6 _ rfl, hcc2 7 _ rfl, hcc2 8 _ rfl, hcc2 9 _ rfl, hcc2 10 _ rfl, hcc3 0 _ rfl, hcc3 1 _ rfl, hcc3 2 _ rfl, hcc3 3 _ rfl, hcc3 4 _ rfl, hcc3 5 _ rfl, hcc3 6 _ rfl, hcc3 7 _ rfl, hcc3 8 _ rfl, hcc3 9 _ rfl, hcc3 10 _ rfl⟩
          have HH := Lib.hid hh
          have HN2 := Lib.hid hn2
          have jn : (j : Int) < (N : Int) := by omega
          have j0 : (0 : Int) ≤ (j : Int) := by omega
          clear hcc2 hcc3 hn2
          go_upto_region 20 with fail
          go_region_held3 (fun w' => New wr w' ∧ g2 < w'.heap.size ∧ g3 < w'.heap.size ∧ w'.cell? ⟨g2, j * 11, none⟩ = some (.bool um) ∧ w'.cell? ⟨g2, j * 11 + 1, none⟩ = some (.int .u8 qk) ∧ w'.cell? ⟨g2, j * 11 + 2, none⟩ = some (.int .u16 qs) ∧ w'.cell? ⟨g2, j * 11 + 3, none⟩ = some (.int .u32 qt) ∧ w'.cell? ⟨g2, j * 11 + 4, none⟩ = some (.int .u32 qc) ∧ w'.cell? ⟨g2, j * 11 + 5, none⟩ = some (.slice none 0 0) ∧ w'.cell? ⟨g2, j * 11 + 6, none⟩ = some (.bool false) ∧ w'.cell? ⟨g2, j * 11 + 7, none⟩ = some (.int .u16 0) ∧ w'.cell? ⟨g2, j * 11 + 8, none⟩ = some (.string ⟨#[]⟩) ∧ w'.cell? ⟨g2, j * 11 + 9, none⟩ = some (.string y2) ∧ w'.cell? ⟨g2, j * 11 + 10, none⟩ = some (.int .i64 0) ∧ w'.cell? ⟨g3, j * 11, none⟩ = some (.bool um) ∧ w'.cell? ⟨g3, j * 11 + 1, none⟩ = some (.int .u8 qk) ∧ w'.cell? ⟨g3, j * 11 + 2, none⟩ = some (.int .u16 qs) ∧ w'.cell? ⟨g3, j * 11 + 3, none⟩ = some (.int .u32 qt) ∧ w'.cell? ⟨g3, j * 11 + 4, none⟩ = some (.int .u32 qc) ∧ w'.cell? ⟨g3, j * 11 + 5, none⟩ = some (.slice none 0 0) ∧ w'.cell? ⟨g3, j * 11 + 6, none⟩ = some (.bool false) ∧ w'.cell? ⟨g3, j * 11 + 7, none⟩ = some (.int .u16 0) ∧ w'.cell? ⟨g3, j * 11 + 8, none⟩ = some (.string ⟨#[]⟩) ∧ w'.cell? ⟨g3, j * 11 + 9, none⟩ = some (.string y2) ∧ w'.cell? ⟨g3, j * 11 + 10, none⟩ = some (.int .i64 0))
            (first
              | (with_reducible assumption)
              | ((with_reducible refine heldV_drew ?_); with_reducible assumption)
              | ((with_reducible apply heldV_new hnq); with_reducible assumption))
            (first
              | (go_at_call 13; (with_reducible refine Calls.mono (HSM.out _) ?_); rintro en wq ⟨rfl, hnq⟩)
              | (go_at_call 14; (with_reducible refine Calls.mono (HCK.out _) ?_); rintro en wq ⟨rfl, hnq⟩))
          all_goals
            rename_i hHl
            have HF := Lib.hid (HN2.out.trans (hHl.1.mono (fun _ _ h => h.elim)))
            clear hHl
            go_wp2
            go_roundw
            case rel => exact ⟨j + 1, by omega, by go_num, HF.out⟩
            case measure => simp [intOf]; omega
        · have hjn' : j = N := by omega
          subst hjn'
          have hp := HPN.out
          have o12 := hp.s.turns hn2 (fun h => h)
          have x12 := hn2.blk hp.x (fun h => h)
          have ba12 := hn2.blk HBA.out (fun h => h)
          have N12 := Lib.hid (hp.n.trans (hn2.mono (fun _ _ h => h.elim)))
          have HCT := Lib.hid (counts p o' wr o12)
          have HTL := Lib.hid (fun w h => told p o' y.src T' w h)
          have htold := told_is hp.lk hp.b.f0 T' y.src
          have hseq := And.intro hp.b.q0 hp.b.q1
          clear hp hn2 a0
          go_wp2_with fail
          refine HCT.out.mono ?_
          rintro e w13 ⟨rfl, n13⟩
          have o13 := o12.turns n13 (fun h => h)
          have x13 := n13.blk x12 (fun h => h)
          have ba13 := n13.blk ba12 (fun h => h)
          have a0 : w13.cell? ⟨pa, 0, none⟩ = some (.int .i64 y.src) := ba13.cell 0
          clear o12 x12 ba12 HCT
          have hw1 : IntKind.i64.wrap (T' + S') = T' + S' := IntWalk.i64_in _ (by omega)
          obtain ⟨tt, htt⟩ : ∃ tt, (T' + S') % 4294967296 = tt := ⟨_, rfl⟩
          have hw2 : IntKind.u32.wrap (T' + S') = tt := by rw [← htt]; simp [IntKind.wrap, IntKind.bits, IntKind.signed]
          have hw3 : IntKind.i64.wrap o'.seq = o'.seq := IntWalk.i64_in _ (by omega)
          have HNX := Lib.hid (fun nq => (next p o' (w13.drewN nq) o13).mono (fun _ _ h => And.intro h.1 h.2.symm))
          have HSC := Lib.hid (fun nq => (ssrc p o' (w13.drewN nq) o13).mono (fun _ _ h => And.intro h.1 h.2.symm))
          rw [HPN.out.ss] at HSC
          have hlb : lastB o' y.src = (decide (0 < o'.fr) && (o'.src == y.src)) := rfl
          have HFIN : Hid (Pp w w13 (k + 1) p px T' S' La' ss (kd % 128) v o') := Lib.hid ⟨HPN.out.t0, HPN.out.t1, HPN.out.S0, HPN.out.S1, HPN.out.L0, HPN.out.L1, HPN.out.b, HPN.out.ss, HPN.out.kd, HPN.out.lk, o13, x13, N12.out.trans (n13.mono (fun _ _ h => h.elim)), hple, hplt⟩
          obtain ⟨c0, c1, c2, c3, c4, c5, c6, c7, c8, c9, c10, c11⟩ := cells12 x13
          rw [htt] at htold
          have O13 := Lib.hid o13
          clear n13 x13 ba13 o13 hseq HPN HR2 HKK HSK HAL HBA htt hbd bS bL
          by_cases hf : 0 < o'.fr
          · by_cases hs : o'.src = y.src
            · have hl : lastB o' y.src = true := by rw [hlb, decide_eq_true hf, hs]; simp
              have ht2 := htold hl
              rw [hl, if_pos rfl, ht2] at HTL
              have hs2 : (o'.src == y.src) = true := by simpa using hs
              have hd2 : decide (0 < o'.fr) = true := decide_eq_true hf
              clear hl ht2 htold hlb hs
              go_wp2_with fail
              refine (HTL.out _ O13.out).mono ?_
              rintro e w14 ⟨rfl, rfl⟩
              go_upto_region 25 with fail
              go_quiet ((first
                | (go_at_call 17; exact Calls.quiet_of_same (HNX.out _))
                | (go_at_call 18; exact Calls.quiet_of_same (HSC.out _))))
              go_wp2
              go_roundw
              case rel => exact ⟨k + 1, T', S', La', o', by omega, by omega, rfl, by go_num, HFIN.out.drewN _⟩
              case measure => simp [intOf]; omega
            · have hl : lastB o' y.src = false := by rw [hlb]; simp [hs]
              rw [hl, if_neg (by decide)] at HTL
              have hs2 : (o'.src == y.src) = false := beq_eq_false_iff_ne.2 hs
              have hd2 : decide (0 < o'.fr) = true := decide_eq_true hf
              clear hl htold hlb hs
              go_wp2_with fail
              refine (HTL.out _ O13.out).mono ?_
              rintro e w14 ⟨rfl, rfl⟩
              go_upto_region 25 with fail
              go_quiet ((first
                | (go_at_call 17; exact Calls.quiet_of_same (HNX.out _))
                | (go_at_call 18; exact Calls.quiet_of_same (HSC.out _))))
              go_wp2
              go_roundw
              case rel => exact ⟨k + 1, T', S', La', o', by omega, by omega, rfl, by go_num, HFIN.out.drewN _⟩
              case measure => simp [intOf]; omega
          · have hl : lastB o' y.src = false := by rw [hlb, decide_eq_false hf]; rfl
            rw [hl, if_neg (by decide)] at HTL
            have hd2 : decide (0 < o'.fr) = false := decide_eq_false hf
            clear hl htold hlb
            go_wp2_with fail
            refine (HTL.out _ O13.out).mono ?_
            rintro e w14 ⟨rfl, rfl⟩
            go_upto_region 25 with fail
            go_quiet ((first
              | (go_at_call 17; exact Calls.quiet_of_same (HNX.out _))
              | (go_at_call 18; exact Calls.quiet_of_same (HSC.out _))))
            go_wp2
            go_roundw
            case rel => exact ⟨k + 1, T', S', La', o', by omega, by omega, rfl, by go_num, HFIN.out.drewN _⟩
            case measure => simp [intOf]; omega
    · have HE : Hid (Below w.heap.size w wr) := Lib.hid (hpp.n.below (Nat.le_refl _) (fun _ _ h => h.elim))
      have hcase : (k : Int) < n ∧ ¬ (k : Int) < 60 ∨ ¬ (k : Int) < n := by omega
      clear hpp HC HW
      rcases hcase with ⟨hca, hcb⟩ | hca
      all_goals
        go_wp2
        go_ret
        exact ⟨rfl, HE.out⟩
end Go.Proofs.Ytijpgkkhjjpjoaa.rew
