/-
  RewriteKeeps: what stands behind a descriptor.
-/
import Derived.Test.YtijpgkkhjjpjoaaRewMade
import Derived.Test.YtijpgkkhjjpjoaaRpRefCheck
import Derived.Test.YtijpgkkhjjpjoaaVpMath
namespace Go.Proofs.Ytijpgkkhjjpjoaa.rew
open Go.RowKit mem
open Go.Proofs.Ytijpgkkhjjpjoaa.args (Wact StrsAt)
set_option linter.unusedVariables false

theorem Bd.frame {o : O} {f k : Nat} (h : Bd o f k) (s : Int) (l : List U) (hl : ∀ u ∈ l, u.x.size ≤ 1048576) : Bd (frameO o s l) (f + 1) (k + l.length) := by
  cases l with
  | nil => exact ⟨h.q0, h.q1, h.p0, h.p1, h.l0, h.l1, h.f0, by have := h.f1; show o.fr ≤ ((f + 1 : Nat) : Int); omega, h.k0, h.k1, h.b0, h.b1⟩
  | cons u l =>
    have h2 : Bd (midO o s u) f k := by unfold midO; split; exact (h.time _ _).count _; exact h.time _ _
    have h3 := h2.packs (u :: l) hl
    exact ⟨h3.q0, h3.q1, h3.p0, h3.p1, h3.l0, h3.l1, (by have := h.f0; show 0 ≤ o.fr + 1; omega), (by have := h.f1; show o.fr + 1 ≤ ((f + 1 : Nat) : Int); omega), h3.k0, h3.k1, h3.b0, h3.b1⟩
theorem packs_keep (l : List U) : ∀ o : O, (packsO o l).v = o.v ∧ (packsO o l).pic = o.pic ∧ (packsO o l).lev = o.lev ∧ (packsO o l).src = o.src ∧ (packsO o l).lat = o.lat ∧ (packsO o l).sh = o.sh ∧ (packsO o l).ssrc = o.ssrc ∧ (packsO o l).kind = o.kind := by
  induction l with
  | nil => exact fun _ => ⟨rfl, rfl, rfl, rfl, rfl, rfl, rfl, rfl⟩
  | cons u l ih => exact fun o => ih _
theorem packs_at (l : List U) (j : Nat) (u : U) (h : l[j]? = some u) : ∀ (o : O) (t : Int), (packs o t l)[j]? = some (packK (packsO o (l.take j)) u t) := by
  induction l generalizing j with
  | nil => simp at h
  | cons x l ih =>
    cases j with
    | zero => intro o t; simp at h; subst h; rfl
    | succ j => intro o t; exact ih j (by simpa using h) _ _
theorem frameK_at (o : O) (s : Int) (l : List U) (j : Nat) (u : U) (h : l[j]? = some u) :
    ∃ q t, (frameK o s l)[j]? = some (packK q u t) ∧ q.v = (frameO o s l).v ∧ q.pic = (frameO o s l).pic ∧ q.lev = (frameO o s l).lev := by
  cases l with
  | nil => simp at h
  | cons x l =>
    refine ⟨_, _, packs_at (x :: l) j u h _ _, ?_⟩
    have a := packs_keep ((x :: l).take j) (midO o s x)
    have b := packs_keep (x :: l) (midO o s x)
    exact ⟨a.1.trans b.1.symm, a.2.1.trans b.2.1.symm, a.2.2.1.trans b.2.2.1.symm⟩
theorem frameK_len (o : O) (s : Int) (l : List U) : (frameK o s l).length = l.length := by
  cases l with
  | nil => rfl
  | cons x l => exact packs_len _ _ _
theorem frame_pic (o : O) (s : Int) (l : List U) (hv : o.v = true) (h0 : -1 ≤ o.pic) (h1 : o.pic ≤ 32766) :
    (frameO o s l).v = true ∧ (frameO o s l).pic = if l.length = 0 then o.pic else o.pic + 1 := by
  cases l with
  | nil => exact ⟨hv, rfl⟩
  | cons x l =>
    have b := packs_keep (x :: l) (midO o s x)
    have e1 : midO o s x = countO (timeO o s x.t) x.x := by unfold midO; rw [if_pos hv]
    have e2 : (timeO o s x.t).v = true ∧ (timeO o s x.t).pic = o.pic := by unfold timeO; split; exact ⟨hv, rfl⟩; split <;> exact ⟨hv, rfl⟩
    have e3 : (countO (timeO o s x.t) x.x).v = true ∧ (countO (timeO o s x.t) x.x).pic = o.pic + 1 := by
      have h2 : ((timeO o s x.t).pic + 1) % 32768 = o.pic + 1 := by rw [e2.2]; omega
      unfold countO levO
      split <;> exact ⟨e2.1, h2⟩
    refine ⟨?_, ?_⟩
    · show (packsO (midO o s x) (x :: l)).v = true
      rw [b.1, e1]; exact e3.1
    · show (packsO (midO o s x) (x :: l)).pic = _
      rw [b.2.1, e1, e3.2]; simp
theorem made_x (z : Wact) (t : Int) (k j : Nat) (u : U) (h : (madeL z t k)[j]? = some u) : u.x.size ≤ 60 := by
  induction k with
  | zero => simp [madeL] at h
  | succ k ih =>
    rw [madeL] at h
    by_cases hj : j < (madeL z t k).length
    · rw [List.getElem?_append_left hj] at h; exact ih h
    · rw [List.getElem?_append_right (by omega)] at h
      have : u = madeU z t k := by
        cases hh : j - (madeL z t k).length with
        | zero => rw [hh] at h; simpa using h.symm
        | succ n => rw [hh] at h; simp at h
      subst this
      exact (oref.cutS_size _ _).1
theorem made_mem (z : Wact) (t : Int) (k : Nat) : ∀ u ∈ madeL z t k, u.x.size ≤ 1048576 := fun u hu => by
  obtain ⟨j, hj⟩ := List.mem_iff_getElem?.1 hu
  have := made_x z t k j u hj
  omega

/-- what Frame answers, as a slice that can be read -/
def ResL (w : World) (p : Nat) (o : O) (L : List K) (e : Ending) (w' : World) : Prop :=
  ∃ ao c, e = .returned (.slice ao L.length c) ∧ Reads KE w' ao L ∧ (∀ g, ao = some ⟨g, 0, none⟩ → w.heap.size ≤ g) ∧ At w w' p o
theorem res_l {w : World} {p : Nat} {o : O} {L : List K} {e : Ending} {w' : World} (h : Res w p o L e w') : ResL w p o L e w' := by
  obtain ⟨v, rfl, ho, hb, ha⟩ := h
  obtain ⟨ao, c, rfl, _, hr, hob⟩ := ho.form
  exact ⟨ao, c, rfl, hr, fun g hg => hb g (hob g hg), ha⟩

abbrev HeldF (w w' : World) (p p1 o1 p2 o2 : Nat) (x1 x2 : Value) : Prop :=
  Turns (· = p) w w' ∧ p1 < w'.heap.size ∧ p2 < w'.heap.size ∧ w'.cell? ⟨p1, o1, none⟩ = some x1 ∧ w'.cell? ⟨p2, o2, none⟩ = some x2
section
variable {w w1 w2 : World} {p p1 o1 p2 o2 : Nat} {x1 x2 : Value}
theorem heldF_drew (h : HeldF w w1 p p1 o1 p2 o2 x1 x2) : HeldF w w1.drew p p1 o1 p2 o2 x1 x2 := by
  obtain ⟨hn, h⟩ := h
  exact ⟨hn.drew, h⟩
theorem heldF_turns (k : Turns (· = p) w1 w2) (h1 : p1 ≠ p) (h2 : p2 ≠ p) (h : HeldF w w1 p p1 o1 p2 o2 x1 x2) : HeldF w w2 p p1 o1 p2 o2 x1 x2 := by
  obtain ⟨hn, hl, hb, a1, a2⟩ := h
  exact ⟨hn.trans (k.mono (fun _ _ h => .inl h)), Nat.lt_of_lt_of_le hl k.size, Nat.lt_of_lt_of_le hb k.size, (k.cell (a := ⟨p1, o1, none⟩) hl h1).trans a1, (k.cell (a := ⟨p2, o2, none⟩) hb h2).trans a2⟩
end

theorem Bd.mono {o : O} {f k f' k' : Nat} (h : Bd o f k) (hf : f ≤ f') (hk : k ≤ k') : Bd o f' k' :=
  ⟨h.q0, h.q1, h.p0, h.p1, h.l0, h.l1, h.f0, by have := h.f1; omega, h.k0, by have := h.k1; omega, h.b0, by have := h.b1; omega⟩

/-- what is sent is read as what came, but for the numbers -/
def pq (q : O) (x : ByteArray) : vp.D := if er x = 0 then vp.withD (par x) q.pic (max q.lev 0) else par x
theorem parse_pay (q : O) (x : ByteArray) (hv : q.v = true) (hx : x.size ≤ 60) (w : World) :
    Calls Try.prog 20 #[.string (pay q x)] w fun e w' => e = .returned (.tuple #[.agg (vp.cells (pq q x)), .string (rst x), .int .i64 (er x)]) ∧ New w w' := by
  by_cases he : er x = 0
  · have e1 : pay q x = ⟨((vp.tx (vp.withD (par x) q.pic (max q.lev 0))) ++ (rst x).data.toList).toArray⟩ := by unfold pay; rw [if_pos hv, if_pos he]
    have hl := rst_size x he
    have hV := vp.with_V (par x) (par_V x he) q.pic (max q.lev 0)
    have ht := (tx_bd (vp.withD (par x) q.pic (max q.lev 0))).2
    have hrl : (rst x).data.toList.length = (rst x).size := by rw [Array.length_toList]; rfl
    have h := vp.parse_text (vp.withD (par x) q.pic (max q.lev 0)) hV (rst x).data.toList
    rw [e1]
    refine (vp.parse ⟨((vp.tx (vp.withD (par x) q.pic (max q.lev 0))) ++ (rst x).data.toList).toArray⟩ w (by rw [size_mk, List.length_append]; omega)).mono ?_
    rintro e w' ⟨rfl, hw⟩
    simp only
    unfold vp.outD vp.outL
    rw [h.1, h.2]
    simp only [if_true]
    unfold pq
    rw [if_pos he, he]
    exact ⟨by rw [eta_mk], hw⟩
  · have e1 : pay q x = x := by unfold pay; rw [if_pos hv, if_neg he]
    have e2 : pq q x = par x := by unfold pq; rw [if_neg he]
    rw [e1, e2]
    exact parse_ x w (by omega)
theorem pq_is (q : O) (x : ByteArray) (he : er x = 0) (h0 : 0 ≤ q.pic) (h1 : q.pic ≤ 32767) :
    (pq q x).st = (par x).st ∧ (pq q x).part = (par x).part ∧ (pq q x).lay = (par x).lay ∧ (pq q x).key = (par x).key ∧ (0 ≤ (par x).pic → (pq q x).pic = q.pic) ∧ (¬ 0 ≤ (par x).pic → (pq q x).pic = -1) := by
  have hV := (par_V x he).pic
  have e : pq q x = vp.withD (par x) q.pic (max q.lev 0) := by unfold pq; rw [if_pos he]
  rw [e]
  unfold vp.withD
  have m : q.pic % 32768 = q.pic := by omega
  by_cases a : 0 ≤ (par x).pic <;> by_cases b : 0 ≤ (par x).lev
  · simp [a, b, m]
  · simp [a, b, m]
  · simp [a, b]; omega
  · simp [a, b]; omega

theorem zero_check (w : World) :
    Calls Try.prog 21 #[.agg #[.bool false, .int .u8 0, .int .u16 0, .int .u32 0, .int .u32 0, .slice none 0 0, .bool false, .int .u16 0, .string ⟨#[]⟩, .string ⟨#[]⟩, .int .i64 0]] w fun e w' => e = .returned (.int .i64 0) ∧ New w w' := by
  have hf : rp.F rp.zero := ⟨by decide, by decide, by decide, by decide, (fun x hx => by cases hx), by decide, by decide, by decide, by decide, by decide⟩
  have hc : rp.chk rp.zero = 0 := by decide
  have h := rp.rcheck rp.zero hf none 0 w (.inl rfl)
  rw [hc] at h
  exact h

/-- what the outer loop holds -/
structure Kp (w wr : World) (k p : Nat) (P : Int) (o : O) : Prop where
  v : o.v = true
  pic : o.pic = P
  p0 : -1 ≤ P
  p1 : P < k
  b : Bd o k (4 * k)
  s : Ot wr p o
  n : New w wr

set_option maxHeartbeats 2000000 in
set_option maxRecDepth 100000 in
theorem keeps_law (a : Option Addr) (n c : Nat) (z : Nat → Wact) (w : World) (hz : args.wactRow w a n c z) :
    Calls Try.prog 5 #[.slice a n c] w fun e w' => e = .returned (.bool true) ∧ Below w.heap.size w w' := by
  obtain ⟨hn, hwf, hcell⟩ := hz
  unfold maxLen at hn
  have HW := Lib.hid hwf
  have HC := Lib.hid hcell
  clear hwf hcell
  have HN := Lib.hid (fun w => new true 7 96 0 w (by decide))
  go_enter Try.func5, Try.ntmps5
  go_wp2_with fail
  refine (awake w).mono ?_
  rintro e w1 ⟨rfl, h1⟩
  have N1 := Lib.hid h1
  clear h1
  go_wp2_with fail
  refine (HN.out _).mono ?_
  rintro e w2 ⟨rfl, h2, n2⟩
  have hle : w.heap.size ≤ w1.heap.size := N1.out.size
  have HK0 : Hid (Kp w w2 0 w1.heap.size (-1) (fresh true 7 96 0)) := Lib.hid ⟨rfl, rfl, by omega, by omega, fresh_bd _ _ _ _ (by decide) (by decide), h2, N1.out.trans (n2.mono (fun _ _ h => h.elim))⟩
  clear n2 HN h2
  generalize w1.heap.size = p at *
  clear N1
  go_wp2_with fail
  go_loopw [4, 5] (fun pc i wr => ∃ k : Nat, ∃ P : Int, ∃ o : O, k ≤ n ∧ k ≤ 40 ∧ pc = .int .i64 P ∧ i = .int .i64 k ∧ Kp w wr k p P o) (fun _ i _ => n - (intOf i).toNat)
  case atStart => exact ⟨0, -1, _, Nat.zero_le _, by omega, rfl, rfl, HK0.out⟩
  case round =>
    obtain ⟨k, P, o, hk, hk40, rfl, rfl, hkp⟩ := hrel
    clear HK0
    by_cases hgo : k < n ∧ k < 40
    · obtain ⟨hlt, hlt2⟩ := hgo
      obtain ⟨b, off, rfl, hb, hcell⟩ := HC.out.resolve_left (by omega)
      obtain ⟨c0, c1, c2, c3⟩ := hcell k hlt
      obtain ⟨_, _, hstr⟩ := HW.out k hlt
      obtain ⟨hv, hpic, hP0, hP1, hbd, hs, hnw⟩ := hkp
      have r0 := (hnw.cell hb (fun h => h)).trans c0
      have r1 := (hnw.cell (a := ⟨b, off + k * 4 + 1, none⟩) hb (fun h => h)).trans c1
      have r2 := (hnw.cell (a := ⟨b, off + k * 4 + 2, none⟩) hb (fun h => h)).trans c2
      have r3 := (hnw.cell (a := ⟨b, off + k * 4 + 3, none⟩) hb (fun h => h)).trans c3
      have hstr2 : StrsAt wr (z k).ta (z k).tn (z k).tz := by
        obtain ⟨s1, s2, s3⟩ := hstr
        refine ⟨s1, s2, ?_⟩
        rcases s3 with s3 | ⟨b', off', e, hb', hc'⟩
        · exact .inl s3
        · exact .inr ⟨b', off', e, Nat.lt_of_lt_of_le hb' hnw.size, fun i hi => (hnw.cell (a := ⟨b', off' + i, none⟩) hb' (fun h => h)).trans (hc' i hi)⟩
      have HMD := Lib.hid (made (z k) k wr hstr2)
      have HBD := Lib.hid hbd
      have HS := Lib.hid hs
      have HNW := Lib.hid hnw
      have HPV := Lib.hid (frame_pic o · · hv (by omega) (by omega))
      have hbp : b ≠ p := by omega
      have hbl : b < wr.heap.size := Nat.lt_of_lt_of_le hb hnw.size
      clear hcell HC HW c0 c1 c2 c3 hstr hstr2 hbd hs hnw
      generalize hzk : z k = y at *
      clear hzk
      have kn : (k : Int) < (n : Int) := by omega
      have k0 : (0 : Int) ≤ (k : Int) := by omega
      have hd : decide ((k : Int) < 40) = true := by simp; omega
      go_wp2_with fail
      refine HMD.out.mono ?_
      rintro e w3 ⟨v1, v2, rfl, o1, o2, b1, b2, n3⟩
      have hL60 := made_x y k (min y.tn 4)
      have hmem := made_mem y k (min y.tn 4)
      have hlen := madeL_len y k (min y.tn 4)
      obtain ⟨ao1, cc1, rfl, _, rd1, ob1⟩ := o1.form
      have hN4 : (madeL y k (min y.tn 4)).length ≤ 4 := by rw [hlen]; omega
      clear hlen o1 o2 b2 HMD
      generalize madeL y k (min y.tn 4) = L at *
      obtain ⟨N, hN⟩ : ∃ N, L.length = N := ⟨_, rfl⟩
      rw [hN] at hN4
      have O3 := HS.out.turns n3 (fun h => h)
      have hpw := HS.out.lt
      have rd4 := rd1.turns ((Turns.refl (fun _ => False) w3).alloc (.cells #[.slice ao1 N cc1] FT)) (fun _ _ h => h)
      have O4 := O3.alloc (.cells #[.slice ao1 N cc1] FT)
      have n4 : New w (w3.alloc (.cells #[.slice ao1 N cc1] FT)) := (HNW.out.trans (n3.mono (fun _ _ h => h.elim))).alloc _
      have bf4 : Blk (w3.alloc (.cells #[.slice ao1 N cc1] FT)) w3.heap.size #[.slice ao1 N cc1] FT := Blk.new _ _ _
      have r4 : (w3.alloc (.cells #[.slice ao1 N cc1] FT)).cell? ⟨b, off + k * 4, none⟩ = some (.int .i64 y.src) := (World.cell?_alloc_lt _ _ _ (Nat.lt_of_lt_of_le hbl n3.size)).trans ((n3.cell (a := ⟨b, off + k * 4, none⟩) hbl (fun h => h)).trans r0)
      have hbl4 : b < (w3.alloc (.cells #[.slice ao1 N cc1] FT)).heap.size := by rw [World.size_alloc]; have := n3.size; omega
      have hpf : w3.heap.size ≠ p := by have := n3.size; omega
      have hg1 : ∀ g, ao1 = some ⟨g, 0, none⟩ → g ≠ p := fun g hg => by have := b1 g (ob1 g hg); omega
      have HD4 := Lib.hid (And.intro rd4 (And.intro O4 (And.intro n4 (And.intro bf4 hg1))))
      have HN3 := Lib.hid hN
      clear r0 r1 r2 r3 rd1 ob1 b1 n3 O3 rd4 O4 n4 bf4 hg1
      rw [hN]
      go_upto_if 42 with fail
      generalize w3.alloc (.cells #[.slice ao1 N cc1] FT) = w4 at *
      generalize w3.heap.size = pf at *
      obtain ⟨P', hP'⟩ : ∃ P' : Int, (if N = 0 then P else P + 1) = P' := ⟨_, rfl⟩
      go_cut [4] (fun v4 wx => v4 = .int .i64 P' ∧ wx = w4)
      case first =>
        clear HD4 HPV HBD HS HNW hL60 hmem r4
        by_cases h0 : N = 0
        · rw [if_pos h0] at hP'
          subst hP'
          subst h0
          go_wp2_with fail
          go_meet
          case rel => exact ⟨rfl, rfl⟩
        · rw [if_neg h0] at hP'
          have hw : IntKind.i64.wrap (P + 1) = P' := by rw [hP']; exact IntWalk.i64_in _ (by omega)
          have hpos : (0 : Int) < (N : Int) := by omega
          clear hP'
          go_wp2_with fail
          go_meet
          case rel => exact ⟨rfl, rfl⟩
      case rest =>
        obtain ⟨rfl, rfl⟩ := hcut
        obtain ⟨rd4, O4, n4, bf4, hg1⟩ := HD4.out
        have f0 : wc.cell? ⟨pf, 0, none⟩ = some (.slice ao1 N cc1) := bf4.cell 0
        have HFR := Lib.hid (fun w h r => (frame p o y.src ao1 cc1 L k (4 * k) w h HBD.out (by omega) (by omega) (by omega) hmem r hg1).mono (fun _ _ h => res_l h))
        rw [hN] at HFR
        have hh : HeldF wc wc p b (off + k * 4) pf 0 (.int .i64 y.src) (.slice ao1 N cc1) := ⟨Turns.refl _ _, hbl4, bf4.lt, r4, f0⟩
        have HH := Lib.hid hh
        have hlenK : (frameK o y.src L).length = N := by rw [frameK_len, hN]
        have hK := frameK_at o y.src L
        have hpv := HPV.out y.src L
        have hB' := (HBD.out.frame y.src L hmem).mono (Nat.le_refl (k + 1)) (show 4 * k + L.length ≤ 4 * (k + 1) by omega)
        rw [hN] at hpv
        generalize frameO o y.src L = o' at *
        generalize frameK o y.src L = KK at *
        have HKK := Lib.hid (And.intro hK (And.intro hpv hB'))
        have HD := Lib.hid (And.intro rd4 (And.intro O4 n4))
        have HG1 := Lib.hid hg1
        clear HD4 HPV HBD HS HNW hmem rd4 O4 n4 bf4 hg1 hK hpv hB'
        go_upto_region 11 with fail
        go_region_held3 (fun w' => Turns (· = p) wc w' ∧ b < w'.heap.size ∧ pf < w'.heap.size ∧ w'.cell? ⟨b, off + k * 4, none⟩ = some (.int .i64 y.src) ∧ w'.cell? ⟨pf, 0, none⟩ = some (.slice ao1 N cc1))
          (first
            | (with_reducible assumption)
            | ((with_reducible refine heldF_drew ?_); with_reducible assumption)
            | ((with_reducible apply heldF_turns hnq.2.2.2 hbp hpf); with_reducible assumption))
          ((go_at_call 11; (with_reducible refine Calls.mono (HFR.out _ ?_ ?_) ?_); (focus ((repeat (with_reducible apply Ot.drew)); exact HD.out.2.1)); (focus (exact HD.out.1)); rintro en wq ⟨ao2, cc2, rfl, hnq⟩))
        obtain ⟨rdK, hgK, atK⟩ := hnq
        have at5 : At wc wq p o' := ⟨atK.1, Turns.of_drew atK.2⟩
        have n5 := new_at HD.out.2.2 at5 hle
        have rdL := HD.out.1.turns at5.2 HG1.out
        have f5 := (heldF_turns at5.2 hbp hpf hh).2.2.2.2
        have hgp : ∀ g, ao2 = some ⟨g, 0, none⟩ → wc.heap.size ≤ g := hgK
        have hP1' : P' < ((k + 1 : Nat) : Int) ∧ -1 ≤ P' ∧ (N ≠ 0 → 0 ≤ P') := by rw [← hP']; split <;> omega
        have KP : Hid (Kp w wq (k + 1) p P' o') := by
          obtain ⟨_, hpv, hB'⟩ := HKK.out
          refine Lib.hid ⟨hpv.1, ?_, hP1'.2.1, hP1'.1, hB', at5.1, n5⟩
          rw [hpv.2, hpic]; exact hP'
        have HK2 : Hid (∀ (j : Nat) (u : U), L[j]? = some u → ∃ q t, KK[j]? = some (packK q u t) ∧ q.v = true ∧ q.pic = P') := Lib.hid (fun j u hu => by
          obtain ⟨q, t, h1, h2, h3, _⟩ := HKK.out.1 j u hu
          exact ⟨q, t, h1, h2.trans KP.out.v, h3.trans KP.out.pic⟩)
        have HRD := Lib.hid (And.intro rdK (And.intro rdL f5))
        have HL60 := Lib.hid hL60
        have hpf5 : pf < wq.heap.size := World.block_lt_of_cell? _ _ f5
        clear hh HH HD HKK HFR rdK hgK atK at5 n5 rdL f5 hgp HG1 hL60 hP' r4
        go_wp2_with fail
        go_loopw [54] (fun idx wr2 => ∃ j : Nat, j ≤ N ∧ idx = .int .i64 j ∧ New wq wr2) (fun idx _ => N - (intOf idx).toNat)
        case atStart => exact ⟨0, Nat.zero_le _, rfl, Turns.refl _ _⟩
        case round =>
          obtain ⟨j, hj, rfl, hn2⟩ := hrel
          by_cases hjn : j < N
          · have hju : j < L.length := by rw [HN3.out]; exact hjn
            obtain ⟨u, hu⟩ : ∃ u, L[j]? = some u := ⟨L[j], List.getElem?_eq_getElem hju⟩
            obtain ⟨q, t, hkk, hqv, hqp⟩ := HK2.out j u hu
            obtain ⟨rdK, rdL, f5⟩ := HRD.out
            have f6 : wr.cell? ⟨pf, 0, none⟩ = some (.slice ao1 N cc1) := (hn2.cell (a := ⟨pf, 0, none⟩) hpf5 (fun h => h)).trans f5
            rcases rdL.turns hn2 (fun _ _ h => h) with hx | ⟨g1, rfl, hg1, hc1⟩
            · rw [hx] at hju; simp at hju
            rcases rdK.turns hn2 (fun _ _ h => h) with hx | ⟨g2, rfl, hg2, hc2⟩
            · rw [hx] at hkk; simp at hkk
            have x5 : wr.cell? ⟨g1, j * 7 + 5, none⟩ = some (.string u.x) := hc1 j u hu 5 _ rfl
            have hcc := hc2 j _ hkk
            have e0 : wr.cell? ⟨g2, j * 11, none⟩ = some (.bool u.mr) := hcc 0 _ rfl
            have e1 : wr.cell? ⟨g2, j * 11 + 1, none⟩ = some (.int .u8 q.kind) := hcc 1 _ rfl
            have e2 : wr.cell? ⟨g2, j * 11 + 2, none⟩ = some (.int .u16 q.seq) := hcc 2 _ rfl
            have e3 : wr.cell? ⟨g2, j * 11 + 3, none⟩ = some (.int .u32 t) := hcc 3 _ rfl
            have e4 : wr.cell? ⟨g2, j * 11 + 4, none⟩ = some (.int .u32 q.ssrc) := hcc 4 _ rfl
            have e5 : wr.cell? ⟨g2, j * 11 + 5, none⟩ = some (.slice none 0 0) := hcc 5 _ rfl
            have e6 : wr.cell? ⟨g2, j * 11 + 6, none⟩ = some (.bool false) := hcc 6 _ rfl
            have e7 : wr.cell? ⟨g2, j * 11 + 7, none⟩ = some (.int .u16 0) := hcc 7 _ rfl
            have e8 : wr.cell? ⟨g2, j * 11 + 8, none⟩ = some (.string ⟨#[]⟩) := hcc 8 _ rfl
            have e9 : wr.cell? ⟨g2, j * 11 + 9, none⟩ = some (.string (pay q u.x)) := hcc 9 _ rfl
            have e10 : wr.cell? ⟨g2, j * 11 + 10, none⟩ = some (.int .i64 0) := hcc 10 _ rfl
            have hx60 := HL60.out j u hu
            have HPA := Lib.hid (fun w => parse_ u.x w (by omega))
            have HPB := Lib.hid (fun w => parse_pay q u.x hqv hx60 w)
            have hpay : Hid (¬ er u.x = 0 → pay q u.x = u.x) := Lib.hid (fun h => by unfold pay; rw [if_pos hqv, if_neg h])
            have hpq : Hid (er u.x = 0 → _) := Lib.hid (fun h => pq_is q u.x h (by rw [hqp]; have := hP1'.2.2; omega) (by rw [hqp]; have := hP1'.1; omega))
            rw [hqp] at hpq
            have jn : (j : Int) < (N : Int) := by omega
            have j0 : (0 : Int) ≤ (j : Int) := by omega
            clear hc1 hc2 hcc rdK rdL f5 hu hju hkk hqv hqp
            generalize q.kind = qk at *
            generalize q.seq = qs at *
            generalize q.ssrc = qc at *
            generalize pay q u.x = y2 at *
            generalize pq q u.x = D2 at *
            generalize par u.x = D1 at *
            generalize rst u.x = rs at *
            generalize er u.x = ee at *
            generalize u.x = xx at *
            generalize u.mr = mr at *
            obtain ⟨nr, st, part, pic, wide, lev, lay, sync, key⟩ := D1
            obtain ⟨nr2, st2, part2, pic2, wide2, lev2, lay2, sync2, key2⟩ := D2
            simp only [vp.cells] at HPA HPB
            have hpf2 : pf < wr.heap.size := World.block_lt_of_cell? _ _ f6
            go_upto_region 15 with fail
            have bk : Blk (wr.alloc (.cells #[.bool mr, .int .u8 qk, .int .u16 qs, .int .u32 t, .int .u32 qc, .slice none 0 0, .bool false, .int .u16 0, .string ⟨#[]⟩, .string y2, .int .i64 0] KT)) wr.heap.size #[.bool mr, .int .u8 qk, .int .u16 qs, .int .u32 t, .int .u32 qc, .slice none 0 0, .bool false, .int .u16 0, .string ⟨#[]⟩, .string y2, .int .i64 0] KT := Blk.new _ _ _
            have n6 : New wq (wr.alloc (.cells #[.bool mr, .int .u8 qk, .int .u16 qs, .int .u32 t, .int .u32 qc, .slice none 0 0, .bool false, .int .u16 0, .string ⟨#[]⟩, .string y2, .int .i64 0] KT)) := hn2.alloc _
            clear e0 e1 e2 e3 e4 e5 e6 e7 e8 e9 e10 x5 f6 hn2 hpf2 hg1 hg2
            generalize wr.alloc (.cells #[.bool mr, .int .u8 qk, .int .u16 qs, .int .u32 t, .int .u32 qc, .slice none 0 0, .bool false, .int .u16 0, .string ⟨#[]⟩, .string y2, .int .i64 0] KT) = w6 at *
            generalize wr.heap.size = pk at *
            go_wp2_with fail
            refine (HPA.out _).mono ?_
            rintro e w7 ⟨rfl, n7⟩
            have bk7 := n7.blk bk (fun h => h)
            have N7 := n6.trans (n7.mono (fun _ _ h => h.elim))
            clear bk n6 n7 HPA
            go_upto_region 16 with fail
            have bd : Blk (w7.alloc (.cells #[.bool nr, .bool st, .int .i64 part, .int .i64 pic, .bool wide, .int .i64 lev, .int .i64 lay, .bool sync, .int .i64 key] vp.DT)) w7.heap.size #[.bool nr, .bool st, .int .i64 part, .int .i64 pic, .bool wide, .int .i64 lev, .int .i64 lay, .bool sync, .int .i64 key] vp.DT := Blk.new _ _ _
            have bk8 := bk7.alloc (.cells #[.bool nr, .bool st, .int .i64 part, .int .i64 pic, .bool wide, .int .i64 lev, .int .i64 lay, .bool sync, .int .i64 key] vp.DT)
            have N8 : New wq (w7.alloc (.cells #[.bool nr, .bool st, .int .i64 part, .int .i64 pic, .bool wide, .int .i64 lev, .int .i64 lay, .bool sync, .int .i64 key] vp.DT)) := N7.alloc _
            clear bk7 N7
            generalize w7.alloc (.cells #[.bool nr, .bool st, .int .i64 part, .int .i64 pic, .bool wide, .int .i64 lev, .int .i64 lay, .bool sync, .int .i64 key] vp.DT) = w8 at *
            generalize w7.heap.size = pd at *
            have k9 : w8.cell? ⟨pk, 9, none⟩ = some (.string y2) := bk8.cell 9
            go_wp2_with fail
            refine (HPB.out _).mono ?_
            rintro e w9 ⟨rfl, n9⟩
            have bk9 := n9.blk bk8 (fun h => h)
            have bd9 := n9.blk bd (fun h => h)
            have N9 := N8.trans (n9.mono (fun _ _ h => h.elim))
            clear bk8 bd N8 n9 k9 HPB
            go_upto_region 17 with fail
            have be : Blk (w9.alloc (.cells #[.bool nr2, .bool st2, .int .i64 part2, .int .i64 pic2, .bool wide2, .int .i64 lev2, .int .i64 lay2, .bool sync2, .int .i64 key2] vp.DT)) w9.heap.size #[.bool nr2, .bool st2, .int .i64 part2, .int .i64 pic2, .bool wide2, .int .i64 lev2, .int .i64 lay2, .bool sync2, .int .i64 key2] vp.DT := Blk.new _ _ _
            have bk10 := bk9.alloc (.cells #[.bool nr2, .bool st2, .int .i64 part2, .int .i64 pic2, .bool wide2, .int .i64 lev2, .int .i64 lay2, .bool sync2, .int .i64 key2] vp.DT)
            have bd10 := bd9.alloc (.cells #[.bool nr2, .bool st2, .int .i64 part2, .int .i64 pic2, .bool wide2, .int .i64 lev2, .int .i64 lay2, .bool sync2, .int .i64 key2] vp.DT)
            have N10 := Lib.hid (N9.alloc (.cells #[.bool nr2, .bool st2, .int .i64 part2, .int .i64 pic2, .bool wide2, .int .i64 lev2, .int .i64 lay2, .bool sync2, .int .i64 key2] vp.DT))
            clear bk9 bd9 N9
            generalize w9.alloc (.cells #[.bool nr2, .bool st2, .int .i64 part2, .int .i64 pic2, .bool wide2, .int .i64 lev2, .int .i64 lay2, .bool sync2, .int .i64 key2] vp.DT) = w10 at *
            generalize w9.heap.size = pe at *
            by_cases he : ee = 0
            · subst he
              obtain ⟨h1, h2, h3, h4, h5, h6⟩ := hpq.out rfl
              subst h1 h2 h3 h4
              have a1 : w10.cell? ⟨pd, 1, none⟩ = some (.bool st2) := bd10.cell 1
              have a2 : w10.cell? ⟨pd, 2, none⟩ = some (.int .i64 part2) := bd10.cell 2
              have a3 : w10.cell? ⟨pd, 3, none⟩ = some (.int .i64 pic) := bd10.cell 3
              have a6 : w10.cell? ⟨pd, 6, none⟩ = some (.int .i64 lay2) := bd10.cell 6
              have a8 : w10.cell? ⟨pd, 8, none⟩ = some (.int .i64 key2) := bd10.cell 8
              have d1 : w10.cell? ⟨pe, 1, none⟩ = some (.bool st2) := be.cell 1
              have d2 : w10.cell? ⟨pe, 2, none⟩ = some (.int .i64 part2) := be.cell 2
              have d3 : w10.cell? ⟨pe, 3, none⟩ = some (.int .i64 pic2) := be.cell 3
              have d6 : w10.cell? ⟨pe, 6, none⟩ = some (.int .i64 lay2) := be.cell 6
              have d8 : w10.cell? ⟨pe, 8, none⟩ = some (.int .i64 key2) := be.cell 8
              clear be bk10 bd10 hpq hpay
              by_cases hp0 : 0 ≤ pic
              · have e9 := h5 hp0
                subst e9
                clear h5 h6
                have hp1 : ¬ pic < 0 := by omega
                go_wp2
                go_roundw
                case rel => exact ⟨j + 1, by omega, by go_num, N10.out⟩
                case measure => simp [intOf]; omega
              · have e9 := h6 (by omega)
                subst e9
                clear h5 h6
                have hp1 : pic < 0 := by omega
                go_wp2
                go_roundw
                case rel => exact ⟨j + 1, by omega, by go_num, N10.out⟩
                case measure => simp [intOf]; omega
            · have hy := hpay.out he
              subst hy
              have k9 : w10.cell? ⟨pk, 9, none⟩ = some (.string y2) := bk10.cell 9
              have he1 : (ee == 0) = false := beq_eq_false_iff_ne.2 he
              have he2 : (ee != 0) = true := by simpa using he
              clear be bk10 bd10 hpq hpay
              go_wp2
              go_roundw
              case rel => exact ⟨j + 1, by omega, by go_num, N10.out⟩
              case measure => simp [intOf]; omega
          · have hjn' : j = N := by omega
            subst hjn'
            have KPn : Hid (Kp w wr (k + 1) p P' o') := Lib.hid ⟨KP.out.v, KP.out.pic, KP.out.p0, KP.out.p1, KP.out.b, KP.out.s.turns hn2 (fun h => h), KP.out.n.trans (hn2.mono (fun _ _ h => h.elim))⟩
            clear hn2 KP
            go_wp2
            go_roundw
            case rel => exact ⟨k + 1, P', o', by omega, by omega, rfl, by go_num, KPn.out⟩
            case measure => simp [intOf]; omega
    · have hend : ∀ w', New wr w' → Below w.heap.size w w' := fun w' h => (hkp.n.trans (h.mono (fun _ _ h => h.elim))).below (Nat.le_refl _) (fun _ _ h => h.elim)
      have HE := Lib.hid hend
      clear hkp HC HW hend
      have hcase : (k : Int) < n ∧ ¬ (k : Int) < 40 ∨ ¬ (k : Int) < n := by omega
      rcases hcase with ⟨hca, hcb⟩ | hca
      all_goals
        go_wp2_with fail
        refine (zero_check wr).mono ?_
        rintro e w3 ⟨rfl, n3⟩
        go_wp2
        go_ret
        exact ⟨rfl, HE.out _ n3⟩
end Go.Proofs.Ytijpgkkhjjpjoaa.rew
