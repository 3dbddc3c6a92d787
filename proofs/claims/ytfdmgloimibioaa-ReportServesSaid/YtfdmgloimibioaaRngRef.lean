/-
  The reference of layer 16 over this translation.
-/
import Derived.Test.YtfdmgloimibioaaRngRun
import Derived.Test.YtfdmgloimibioaaRowsG4
import Derived.Test.YtfdmgloimibioaaPuts
namespace Go.Proofs.Ytfdmgloimibioaa.rng
open Go.RowKit mem Go.Maps
set_option linter.unusedVariables false

abbrev OT : TypeId := 47
abbrev LR (B : Nat) (w : World) (v : Value) (l : List P) : Prop := Lies PE B w v l
theorem infoO : (Try.prog.info? OT).map (fun i => (i.zero, i.size, i.bytes)) = some (some (.agg #[.int .u16 0, .string ⟨#[]⟩, .int .i64 0, .int .i64 0]), 4, 40) := by kernel_rfl

def idxI (l : List P) (n : Int) : Int := match lastIdx l n with | some i => i | none => -1
theorem idx_snoc (l : List P) (x : P) (n : Int) : idxI (l ++ [x]) n = if x.q = n then (l.length : Int) else idxI l n := by
  unfold idxI
  rw [lastIdx_snoc]
  by_cases h : x.q = n <;> simp [h]

set_option maxHeartbeats 1000000 in
theorem rfind (B : Nat) (v : Value) (l : List P) (n : Int) (w : World) (h : LR B w v l) (hl : l.length ≤ 1048576) :
    Calls Try.prog 20 #[v, .int .u16 n] w fun e w' => e = .returned (.int .i64 (idxI l n)) ∧ New w w' := by
  obtain ⟨g, o, c, rfl, hc, hcm, hBg, hg, hcell⟩ := h.cell
  have HC := Lib.hid hcell
  have hlen : Hid (l.length ≤ 1048576) := Lib.hid hl
  have hlm : l.length ≤ maxLen := by unfold maxLen; omega
  clear h hcell
  go_enter Try.func20, Try.ntmps20
  go_wp2_with fail
  go_loopw [5, 10] (fun at' i wr => ∃ k : Nat, k ≤ l.length ∧ i = .int .i64 k ∧ at' = .int .i64 (idxI (l.take k) n) ∧ New w wr) (fun _ i _ => l.length - (intOf i).toNat)
  case atStart => exact ⟨0, Nat.zero_le _, rfl, rfl, Turns.refl _ _⟩
  case round =>
    obtain ⟨k, hk, rfl, rfl, hn⟩ := hrel
    have HN := Lib.hid hn
    clear hn
    by_cases hlt : k < l.length
    · have hlk : k < l.length := hlt
      obtain ⟨x, hx⟩ : ∃ x, l[k]? = some x := ⟨_, List.getElem?_eq_getElem hlk⟩
      have c0 := (HN.out.cell (a := ⟨g, o + k * 4, none⟩) hg (fun h => h)).trans (HC.out k x hx 0 _ rfl)
      have c1 := (HN.out.cell (a := ⟨g, o + k * 4 + 1, none⟩) hg (fun h => h)).trans (HC.out k x hx 1 _ rfl)
      have c2 := (HN.out.cell (a := ⟨g, o + k * 4 + 2, none⟩) hg (fun h => h)).trans (HC.out k x hx 2 _ rfl)
      have c3 := (HN.out.cell (a := ⟨g, o + k * 4 + 3, none⟩) hg (fun h => h)).trans (HC.out k x hx 3 _ rfl)
      have hts : Hid (idxI (l.take (k + 1)) n = if x.q = n then (k : Int) else idxI (l.take k) n) := Lib.hid (by
        have : l.take (k + 1) = l.take k ++ [x] := by rw [List.take_add_one, hx]; rfl
        rw [this, idx_snoc, List.length_take, show min k l.length = k by omega])
      generalize idxI (l.take k) n = at' at *
      obtain ⟨xq, xt, xg, xa⟩ := x
      have HN2 : Hid (New w ((wr.alloc (.cells #[.int .u16 xq, .string xt, .int .i64 xg, .int .i64 xa] OT)))) := Lib.hid (HN.out.alloc _)
      clear hx hlk
      by_cases hq : xq = n
      · subst hq
        rw [if_pos rfl] at hts
        go_wp2_with fail
        go_roundw
        case rel => exact ⟨k + 1, by omega, by go_num, by rw [hts.out], HN2.out⟩
        case measure => simp [intOf]; omega
      · have hqb : (xq == n) = false := by simpa using hq
        have hq' : ¬ (⟨xq, xt, xg, xa⟩ : P).q = n := hq
        rw [if_neg hq'] at hts
        clear hq hq'
        go_wp2_with fail
        go_roundw
        case rel => exact ⟨k + 1, by omega, by go_num, by rw [hts.out], HN2.out⟩
        case measure => simp [intOf]; omega
    · obtain rfl : k = l.length := by omega
      have ht : Hid (l.take l.length = l) := Lib.hid (List.take_length)
      rw [ht.out]
      clear hlt hk
      go_wp2
      go_ret
      exact ⟨rfl, HN.out⟩

/-- two appends behind one another: what has turned, where the new slice lies -/
theorem appended {w w1 w2 : World} {v1 v2 : Value} {o1 o2 : Obj} (h1 : (w.alloc o1).grownBy w1 (some w.heap.size)) (a1 : v1.ownBlock = some w.heap.size ∨ v1.ownBlock = some (w.alloc o1).heap.size)
    (h2 : (w1.alloc o2).grownBy w2 v1.ownBlock) (a2 : v2.ownBlock = v1.ownBlock ∨ v2.ownBlock = some (w1.alloc o2).heap.size) : New w w2 ∧ ∀ g, v2.ownBlock = some g → w.heap.size ≤ g := by
  have n1 : New w w1 := ((Turns.refl _ _).alloc _).trans ((Turns.of_grown h1).mono (fun k _ hk => .inr (by injection hk with hk; omega)))
  have b1 : ∀ g, v1.ownBlock = some g → w.heap.size ≤ g := by
    intro g hg
    rcases a1 with e | e <;> rw [e] at hg <;> injection hg with hg <;> (try simp at hg) <;> omega
  refine ⟨(n1.alloc _).trans ((Turns.of_grown h2).mono (fun k _ hk => .inr (b1 k hk.symm))), ?_⟩
  intro g hg
  rcases a2 with e | e
  · exact b1 g (by rw [← e]; exact hg)
  · rw [e] at hg
    injection hg with hg
    have := n1.size
    simp at hg
    omega

def putL (l : List P) (size : Nat) (x : P) : List P := if size < (l ++ [x]).length then (l ++ [x]).tail else l ++ [x]
set_option maxHeartbeats 1000000 in
theorem rput (B : Nat) (v : Value) (l : List P) (size : Nat) (n : Int) (s : ByteArray) (w : World) (h : LR B w v l) (hl : l.length ≤ size) (hs0 : 0 < size) (hs : size ≤ 4096) (hBw : B ≤ w.heap.size) :
    Calls Try.prog 15 #[v, .int .i64 size, .int .u16 n, .string s] w fun e w' => ∃ v', e = .returned v' ∧ LR w.heap.size w' v' (putL l size ⟨n, s, 0, 0⟩) ∧ New w w' := by
  have HL := Lib.hid h
  have hO : Owns PE OT (w.alloc (.cells #[] OT)) (.slice (some ⟨w.heap.size, 0, none⟩) 0 0) [] := World.ownsRow_made w #[] 0 (Nat.zero_le _) (Nat.zero_le _) rfl
  have HO := Lib.hid hO
  clear h hO
  have HL2 : Hid (LR B (w.alloc (.cells #[] OT)) v l) := Lib.hid (HL.out.turns (S := fun _ => False) ((Turns.refl _ _).alloc _) (fun _ _ h => h))
  have hll : Hid (([] : List P).length + l.length ≤ 1048576) := Lib.hid (by simp; omega)
  obtain ⟨g, o, c, hv, _, _, hBg, hgl, _⟩ := HL.out
  subst hv
  go_enter Try.func15, Try.ntmps15
  go_upto_region 2 with (first
    | (at_builtin; refine wpList_append_lying (E := PE) Try.underlying28 infoO rfl (by decide) (by decide) rfl _ _ rfl _ [] l rfl HO.out _ rfl B HL2.out hll.out ?_; intro v1 w1 hown1 hgrow1 hat1)
    | (at_builtin; refine wpList_append_one (E := PE) Try.underlying28 infoO rfl (by decide) (by decide) rfl _ _ rfl _ ([] ++ l) ⟨n, s, 0, 0⟩ rfl (hown1.alloc _) w1.heap.size rfl (heap_alloc_new w1 _) (by simp; omega) ?_; intro v2 w2 hown2 hgrow2 hat2))
  have happ := appended (v1 := v1) (v2 := v2) hgrow1 hat1 hgrow2 hat2
  have hown3 : Owns PE OT w2 v2 (l ++ [⟨n, s, 0, 0⟩]) := hown2
  have hli := hown3.lies (by simp) w.heap.size happ.2
  have hli2 := hli
  have hlen : (l ++ [(⟨n, s, 0, 0⟩ : P)]).length = l.length + 1 := by simp
  obtain ⟨g2, o2, c2, hv2, hc2, hcm2, hB2, hg2, _⟩ := hli2
  rw [hlen] at hc2 hv2
  subst hv2
  have HLI := Lib.hid hli
  have HN := Lib.hid happ.1
  have HLEN := Lib.hid hlen
  clear hli happ hown1 hgrow1 hat1 hown2 hgrow2 hat2 hown3 HL HL2 HO hll hlen
  unfold maxLen at hcm2
  by_cases hfull : size < l.length + 1
  · have hP : Hid (putL l size ⟨n, s, 0, 0⟩ = (l ++ [(⟨n, s, 0, 0⟩ : P)]).tail) := Lib.hid (by unfold putL; rw [HLEN.out, if_pos hfull])
    have hfin : Hid (LR w.heap.size w2 (.slice (some ⟨g2, o2 + 4, none⟩) l.length (c2 - 1)) (putL l size ⟨n, s, 0, 0⟩)) := Lib.hid (by
      rw [hP.out]
      obtain ⟨y, t, hy⟩ : ∃ y t, l ++ [(⟨n, s, 0, 0⟩ : P)] = y :: t := by
        cases hh : l ++ [(⟨n, s, 0, 0⟩ : P)] with
        | nil => simp at hh
        | cons y t => exact ⟨y, t, rfl⟩
      have h := HLI.out
      have hle := HLEN.out
      rw [hy] at h hle ⊢
      rw [← hle] at h
      have := h.tail
      simp only [List.length_cons] at hle
      rw [show t.length = l.length by omega] at this
      exact this)
    have hne : ¬ (c2 = 1) := by omega
    have hfull2 : (size : Int) < (l.length : Int) + 1 := by omega
    clear HLI hP
    go_wp2
    go_ret
    exact ⟨_, rfl, hfin.out, HN.out⟩
  · have hP : Hid (putL l size ⟨n, s, 0, 0⟩ = (l ++ [(⟨n, s, 0, 0⟩ : P)])) := Lib.hid (by unfold putL; rw [HLEN.out, if_neg hfull])
    have hfin : Hid (LR w.heap.size w2 (.slice (some ⟨g2, o2, none⟩) (l.length + 1) c2) (putL l size ⟨n, s, 0, 0⟩)) := Lib.hid (by rw [hP.out]; exact HLI.out)
    have hfull2 : ¬ (size : Int) < (l.length : Int) + 1 := by omega
    clear HLI hP
    go_wp2
    go_ret
    exact ⟨_, rfl, hfin.out, HN.out⟩

/-- what the reference's Again leaves -/
def againL (l : List P) (most gap n now : Int) : List P := match lastIdx l n with
  | none => l
  | some i => match l[i]? with
    | none => l
    | some x => if most ≤ x.g then l else if (decide (0 < x.g) && decide (now - x.a < gap)) = true then l else l.set i { x with g := x.g + 1, a := now }
theorem againR_L (r : R) (n now : Int) : (againR r n now).L = againL r.L r.most r.gap n now := by
  unfold againR againL tooSoon
  cases hf : lastIdx r.L n with
  | none => rfl
  | some i =>
    obtain ⟨x, hx, _⟩ := lastIdx_some hf
    simp only [hx]
    split
    · rfl
    · split <;> rfl

theorem ragain_none (B : Nat) (v : Value) (l : List P) (most gap n now : Int) (w : World) (h : LR B w v l) (hl : l.length ≤ 1048576) (hf : lastIdx l n = none) :
    Calls Try.prog 17 #[v, .int .i64 most, .int .i64 gap, .int .u16 n, .int .i64 now] w fun e w' => e = .returned (.tuple #[v, .string ⟨#[]⟩, .int .i64 12]) ∧ New w w' := by
  have HF := Lib.hid (rfind B v l n w h hl)
  have hi : idxI l n = -1 := by unfold idxI; rw [hf]
  rw [hi] at HF
  clear h hi hf
  go_enter Try.func17, Try.ntmps17
  go_wp2_with fail
  refine HF.out.mono ?_
  rintro e w1 ⟨rfl, hn⟩
  have HN := Lib.hid hn
  clear hn HF
  go_wp2
  go_returns
  exact ⟨rfl, HN.out⟩

theorem own4 {T : TypeId} {w : World} {v : Value} {l : List P} (h : Owns PE T w v l) {g j : Nat} (hv : v.ownBlock = some g) {x : P} (hx : l[j]? = some x) (y : P) :
    Owns PE T ((((w.setCell ⟨g, j * 4, none⟩ (.int .u16 y.q)).setCell ⟨g, j * 4 + 1, none⟩ (.string y.t)).setCell ⟨g, j * 4 + 2, none⟩ (.int .i64 y.g)).setCell ⟨g, j * 4 + 3, none⟩ (.int .i64 y.a)) v (l.set j y) := by
  have hj : j < l.length := (List.getElem?_eq_some_iff.1 hx).1
  have o0 := h.setCell (g := g) (j := j) (i := 0) hv hx (y := { x with q := y.q }) (.int .u16 y.q) (by decide) rfl
  have o1 := o0.setCell (g := g) (j := j) (i := 1) hv (x := { x with q := y.q }) (by rw [List.getElem?_set_self hj]) (y := { x with q := y.q, t := y.t }) (.string y.t) (by decide) rfl
  rw [List.set_set] at o1
  have o2 := o1.setCell (g := g) (j := j) (i := 2) hv (x := { x with q := y.q, t := y.t }) (by rw [List.getElem?_set_self hj]) (y := { x with q := y.q, t := y.t, g := y.g }) (.int .i64 y.g) (by decide) rfl
  rw [List.set_set] at o2
  have o3 := o2.setCell (g := g) (j := j) (i := 3) hv (x := { x with q := y.q, t := y.t, g := y.g }) (by rw [List.getElem?_set_self hj]) (y := y) (.int .i64 y.a) (by decide) rfl
  rw [List.set_set] at o3
  have e4 : PE.n = 4 := rfl
  rw [e4, Nat.add_zero] at o3
  exact o3

/-- a copy of a list: what has turned, where it lies -/
theorem copied {W w1 : World} {v1 : Value} {o1 : Obj} (h1 : (W.alloc o1).grownBy w1 (some W.heap.size)) (a1 : v1.ownBlock = some W.heap.size ∨ v1.ownBlock = some (W.alloc o1).heap.size) : New W w1 ∧ ∀ g, v1.ownBlock = some g → W.heap.size ≤ g := by
  refine ⟨((Turns.refl _ _).alloc _).trans ((Turns.of_grown h1).mono (fun k _ hk => .inr (by injection hk with hk; omega))), ?_⟩
  intro g hg
  rcases a1 with e | e <;> rw [e] at hg <;> injection hg with hg <;> (try simp at hg) <;> omega

/-- an owned list that is not empty -/
theorem own_at {T : TypeId} {w : World} {v : Value} {l : List P} (h : Owns PE T w v l) {i : Nat} {x : P} (hx : l[i]? = some x) : ∃ g c, v = .slice (some ⟨g, 0, none⟩) l.length c ∧ l.length ≤ c ∧ g < w.heap.size ∧ (∀ o, w.frozen? ⟨g, o, none⟩ = false) ∧
    w.cell? ⟨g, i * 4, none⟩ = some (.int .u16 x.q) ∧ w.cell? ⟨g, i * 4 + 1, none⟩ = some (.string x.t) ∧ w.cell? ⟨g, i * 4 + 2, none⟩ = some (.int .i64 x.g) ∧ w.cell? ⟨g, i * 4 + 3, none⟩ = some (.int .i64 x.a) := by
  have hi : i < l.length := (List.getElem?_eq_some_iff.1 hx).1
  obtain ⟨ao, c, e, hc, hrd, _⟩ := h.form
  rcases hrd with h0 | ⟨g, rfl, hg, hcell⟩
  · rw [h0] at hi; exact absurd hi (Nat.not_lt_zero _)
  · refine ⟨g, c, e, hc, hg, ?_, hcell _ x hx 0 _ rfl, hcell _ x hx 1 _ rfl, hcell _ x hx 2 _ rfl, hcell _ x hx 3 _ rfl⟩
    rcases h.2 with ⟨e2, _⟩ | ⟨g', cap, cur, e2, _, hg', _⟩
    · rw [e] at e2; exact absurd e2 (by simp)
    · rw [e] at e2
      injection e2 with e2 _ _
      injection e2 with e2
      injection e2 with e2
      subst e2
      exact (show Blk w g cur T from hg').free

set_option maxHeartbeats 2000000 in
theorem ragain_way (B : Nat) (v : Value) (l : List P) (most gap n now : Int) (i : Nat) (xq : Int) (xt : ByteArray) (xg xa : Int) (w : World) (h : LR B w v l) (hl : l.length ≤ 1048576) (hBw : B ≤ w.heap.size) (hf : lastIdx l n = some i) (hx : l[i]? = some ⟨xq, xt, xg, xa⟩)
    (gx0 : 0 ≤ xg) (gx1 : xg ≤ most) (a0 : 0 ≤ xa) (a1 : xa ≤ 1048576) (m0 : 0 ≤ most) (m1 : most ≤ 1048576) (g0 : 0 ≤ gap) (g1 : gap ≤ 1048576) (t0 : 0 ≤ now) (t1 : now ≤ 1048576)
    (sx : ByteArray) (ee : Int) (L : List P)
    (hway : (most ≤ xg ∧ sx = ⟨#[]⟩ ∧ ee = 11 ∧ L = l) ∨ (xg < most ∧ 0 < xg ∧ now - xa < gap ∧ sx = ⟨#[]⟩ ∧ ee = 14 ∧ L = l) ∨ (xg < most ∧ (0 < xg ∧ gap ≤ now - xa ∨ ¬ 0 < xg) ∧ sx = xt ∧ ee = 0 ∧ L = l.set i ⟨xq, xt, xg + 1, now⟩)) :
    Calls Try.prog 17 #[v, .int .i64 most, .int .i64 gap, .int .u16 n, .int .i64 now] w fun e w' => ∃ v', e = .returned (.tuple #[v', .string sx, .int .i64 ee]) ∧ LR B w' v' L ∧ New w w' ∧ (v' = v ∨ ∀ g, v'.ownBlock = some g → w.heap.size ≤ g) := by
  have HF := Lib.hid (rfind B v l n w h hl)
  have hi : idxI l n = (i : Int) := by unfold idxI; rw [hf]
  rw [hi] at HF
  have hil : i < l.length := lastIdx_lt hf
  have HLR := Lib.hid h
  have HX := Lib.hid hx
  obtain ⟨g, o, c, rfl, hc, hcm, hBg, hg, hcell⟩ := h.cell
  have HC0 := Lib.hid (hcell i _ hx)
  have hlm : l.length ≤ maxLen := by unfold maxLen; omega
  have b0 : (0 : Int) ≤ (i : Int) := by omega
  have b1 : (i : Int) < (l.length : Int) := by omega
  have HWAY := Lib.hid hway
  clear h hi hf hx hcell hway
  go_enter Try.func17, Try.ntmps17
  go_wp2_with fail
  refine HF.out.mono ?_
  rintro e w1 ⟨rfl, hn⟩
  have c0 := (hn.cell (a := ⟨g, o + i * 4, none⟩) hg (fun h => h)).trans (HC0.out 0 _ rfl)
  have c1 := (hn.cell (a := ⟨g, o + i * 4 + 1, none⟩) hg (fun h => h)).trans (HC0.out 1 _ rfl)
  have c2 := (hn.cell (a := ⟨g, o + i * 4 + 2, none⟩) hg (fun h => h)).trans (HC0.out 2 _ rfl)
  have c3 := (hn.cell (a := ⟨g, o + i * 4 + 3, none⟩) hg (fun h => h)).trans (HC0.out 3 _ rfl)
  have HN2 : Hid (New w (w1.alloc (.cells #[.int .u16 xq, .string xt, .int .i64 xg, .int .i64 xa] OT))) := Lib.hid (hn.alloc _)
  have HLR2 : Hid (LR B (w1.alloc (.cells #[.int .u16 xq, .string xt, .int .i64 xg, .int .i64 xa] OT)) (.slice (some ⟨g, o, none⟩) l.length c) l) := Lib.hid ((HLR.out.turns hn (fun _ _ h => h)).turns (S := fun _ => False) ((Turns.refl _ _).alloc _) (fun _ _ h => h))
  have HW1 : Hid (w.heap.size ≤ w1.heap.size) := Lib.hid hn.size
  clear hn HF HC0 HLR
  rcases HWAY.out with ⟨hfull, rfl, rfl, rfl⟩ | ⟨hfull, hpos, hlt, rfl, rfl, rfl⟩ | ⟨hfull, hcases, hsx, rfl, rfl⟩
  · clear HWAY
    go_wp2
    go_returns
    exact ⟨_, rfl, HLR2.out, HN2.out, .inl rfl⟩
  · clear HWAY
    have hsub : IntKind.i64.wrap (now - xa) = now - xa := IntWalk.i64_in _ (by omega)
    go_wp2
    go_returns
    exact ⟨_, rfl, HLR2.out, HN2.out, .inl rfl⟩
  · clear HWAY
    have hsx2 := hsx.symm
    subst hsx2
    clear hsx
    have hsub : IntKind.i64.wrap (now - xa) = now - xa := IntWalk.i64_in _ (by omega)
    have hgw : IntKind.i64.wrap (xg + 1) = xg + 1 := IntWalk.i64_in _ (by omega)
    have hll : Hid (([] : List P).length + l.length ≤ 1048576) := Lib.hid (by simp; omega)
    have hO : ∀ W : World, Owns PE OT (W.alloc (.cells #[] OT)) (.slice (some ⟨W.heap.size, 0, none⟩) 0 0) [] := fun W => World.ownsRow_made W #[] 0 (Nat.zero_le _) (Nat.zero_le _) rfl
    have HO := Lib.hid hO
    clear hO
    have BX : Hid (Blk (w1.alloc (.cells #[.int .u16 xq, .string xt, .int .i64 xg, .int .i64 xa] OT)) w1.heap.size #[.int .u16 xq, .string xt, .int .i64 xg, .int .i64 xa] OT) := Lib.hid (Blk.new _ _ _)
    go_upto_region 5 with fail
    refine (show Code.wp _ _ _ _ (w1.alloc (.cells #[.int .u16 xq, .string xt, .int .i64 xg, .int .i64 xa] OT)) from ?_)
    generalize w1.alloc (.cells #[.int .u16 xq, .string xt, .int .i64 xg, .int .i64 xa] OT) = w2 at *
    generalize w1.heap.size = px at *
    have x0 := BX.out.cell 0
    have x1 := BX.out.cell 1
    have x2 := BX.out.cell 2
    have x3 := BX.out.cell 3
    have HLR3 : Hid (LR B (w2.alloc (.cells #[] OT)) (.slice (some ⟨g, o, none⟩) l.length c) l) := Lib.hid (HLR2.out.turns (S := fun _ => False) ((Turns.refl _ _).alloc _) (fun _ _ h => h))
    rcases hcases with ⟨hpos, hlt⟩ | hpos
    · have hlt' : ¬ now - xa < gap := by omega
      go_upto_region 10 with (at_builtin; refine wpList_append_lying (E := PE) Try.underlying28 infoO rfl (by decide) (by decide) rfl _ _ rfl _ [] l rfl (HO.out _) _ rfl B HLR3.out hll.out ?_; intro v1 w3 hown1 hgrow1 hat1)
      have happ := copied hgrow1 hat1
      have hown2 : Owns PE OT w3 v1 l := hown1
      obtain ⟨g1, c1', hv1, hc1', hg1, hfr, e0, e1, e2, e3⟩ := own_at hown2 HX.out
      subst hv1
      have y0 := (happ.1.cell (a := ⟨px, 0, none⟩) BX.out.lt (fun h => h)).trans x0
      have y1 := (happ.1.cell (a := ⟨px, 1, none⟩) BX.out.lt (fun h => h)).trans x1
      have y2 := (happ.1.cell (a := ⟨px, 2, none⟩) BX.out.lt (fun h => h)).trans x2
      have y3 := (happ.1.cell (a := ⟨px, 3, none⟩) BX.out.lt (fun h => h)).trans x3
      have f0 := hfr (i * 4)
      have f1 := hfr (i * 4 + 1)
      have f2 := hfr (i * 4 + 2)
      have f3 := hfr (i * 4 + 3)
      have hg1n := happ.2 g1 rfl
      have hpx : px ≠ g1 := by have := BX.out.lt; omega
      have hpx' : g1 ≠ px := fun e => hpx e.symm
      have hown4 := own4 hown2 (g := g1) (j := i) rfl HX.out ⟨xq, xt, xg + 1, now⟩
      have hle2 := HN2.out.size
      have hnew4 : New w ((((w3.setCell ⟨g1, i * 4, none⟩ (.int .u16 xq)).setCell ⟨g1, i * 4 + 1, none⟩ (.string xt)).setCell ⟨g1, i * 4 + 2, none⟩ (.int .i64 (xg + 1))).setCell ⟨g1, i * 4 + 3, none⟩ (.int .i64 now)) :=
        ((((HN2.out.trans (happ.1.mono (fun _ _ h => h.elim))).setCell (.inr (by show w.heap.size ≤ g1; omega)) _).setCell (.inr (by show w.heap.size ≤ g1; omega)) _).setCell (.inr (by show w.heap.size ≤ g1; omega)) _).setCell (.inr (by show w.heap.size ≤ g1; omega)) _
      have hBg1 : B ≤ g1 := by omega
      have hty : Blk ((((w3.setCell ⟨g1, i * 4, none⟩ (.int .u16 xq)).setCell ⟨g1, i * 4 + 1, none⟩ (.string xt)).setCell ⟨g1, i * 4 + 2, none⟩ (.int .i64 (xg + 1))).setCell ⟨g1, i * 4 + 3, none⟩ (.int .i64 now)) px #[.int .u16 xq, .string xt, .int .i64 xg, .int .i64 xa] OT :=
        ((((happ.1.blk BX.out (fun h => h)).setOther (a := ⟨g1, i * 4, none⟩) hpx' _).setOther (a := ⟨g1, i * 4 + 1, none⟩) hpx' _).setOther (a := ⟨g1, i * 4 + 2, none⟩) hpx' _).setOther (a := ⟨g1, i * 4 + 3, none⟩) hpx' _
      have hli := hown4.lies (by intro e; have h7 := congrArg List.length e; rw [List.length_set] at h7; simp only [List.length_nil] at h7; omega) B (fun g' hg' => (show g1 = g' by simpa [Value.ownBlock] using hg') ▸ hBg1)
      have hbs : ∀ g, (Value.slice (some ⟨g1, 0, none⟩) l.length c1').ownBlock = some g → w.heap.size ≤ g := fun g' hg' => (show g1 = g' by simpa [Value.ownBlock] using hg') ▸ (by omega)
      have HFIN := Lib.hid (And.intro hli (And.intro hnew4 (And.intro hty hbs)))
      clear hown1 hgrow1 hat1 happ hown2 hown4 hnew4 hli hty hfr HLR2 HLR3 BX HN2 hle2 x0 x1 x2 x3 HX
      go_upto_region 11 with fail
      refine (show Code.wp _ _ _ _ ((((w3.setCell ⟨g1, i * 4, none⟩ (.int .u16 xq)).setCell ⟨g1, i * 4 + 1, none⟩ (.string xt)).setCell ⟨g1, i * 4 + 2, none⟩ (.int .i64 (xg + 1))).setCell ⟨g1, i * 4 + 3, none⟩ (.int .i64 now)) from ?_)
      clear y0 y1 y2 y3 e0 e1 e2 e3 f0 f1 f2 f3
      generalize ((((w3.setCell ⟨g1, i * 4, none⟩ (.int .u16 xq)).setCell ⟨g1, i * 4 + 1, none⟩ (.string xt)).setCell ⟨g1, i * 4 + 2, none⟩ (.int .i64 (xg + 1))).setCell ⟨g1, i * 4 + 3, none⟩ (.int .i64 now)) = w4 at *
      have y1 := HFIN.out.2.2.1.cell 1
      go_quiet (fail)
      go_wp2
      go_returns
      exact ⟨_, rfl, HFIN.out.1.turns (S := fun _ => False) ((Turns.refl _ _).drewN _) (fun _ _ h => h), HFIN.out.2.1.drewN _, .inr HFIN.out.2.2.2⟩
    · have hpos' : decide (0 < xg) = false := by simpa using hpos
      go_upto_region 10 with (at_builtin; refine wpList_append_lying (E := PE) Try.underlying28 infoO rfl (by decide) (by decide) rfl _ _ rfl _ [] l rfl (HO.out _) _ rfl B HLR3.out hll.out ?_; intro v1 w3 hown1 hgrow1 hat1)
      have happ := copied hgrow1 hat1
      have hown2 : Owns PE OT w3 v1 l := hown1
      obtain ⟨g1, c1', hv1, hc1', hg1, hfr, e0, e1, e2, e3⟩ := own_at hown2 HX.out
      subst hv1
      have y0 := (happ.1.cell (a := ⟨px, 0, none⟩) BX.out.lt (fun h => h)).trans x0
      have y1 := (happ.1.cell (a := ⟨px, 1, none⟩) BX.out.lt (fun h => h)).trans x1
      have y2 := (happ.1.cell (a := ⟨px, 2, none⟩) BX.out.lt (fun h => h)).trans x2
      have y3 := (happ.1.cell (a := ⟨px, 3, none⟩) BX.out.lt (fun h => h)).trans x3
      have f0 := hfr (i * 4)
      have f1 := hfr (i * 4 + 1)
      have f2 := hfr (i * 4 + 2)
      have f3 := hfr (i * 4 + 3)
      have hg1n := happ.2 g1 rfl
      have hpx : px ≠ g1 := by have := BX.out.lt; omega
      have hpx' : g1 ≠ px := fun e => hpx e.symm
      have hown4 := own4 hown2 (g := g1) (j := i) rfl HX.out ⟨xq, xt, xg + 1, now⟩
      have hle2 := HN2.out.size
      have hnew4 : New w ((((w3.setCell ⟨g1, i * 4, none⟩ (.int .u16 xq)).setCell ⟨g1, i * 4 + 1, none⟩ (.string xt)).setCell ⟨g1, i * 4 + 2, none⟩ (.int .i64 (xg + 1))).setCell ⟨g1, i * 4 + 3, none⟩ (.int .i64 now)) :=
        ((((HN2.out.trans (happ.1.mono (fun _ _ h => h.elim))).setCell (.inr (by show w.heap.size ≤ g1; omega)) _).setCell (.inr (by show w.heap.size ≤ g1; omega)) _).setCell (.inr (by show w.heap.size ≤ g1; omega)) _).setCell (.inr (by show w.heap.size ≤ g1; omega)) _
      have hBg1 : B ≤ g1 := by omega
      have hty : Blk ((((w3.setCell ⟨g1, i * 4, none⟩ (.int .u16 xq)).setCell ⟨g1, i * 4 + 1, none⟩ (.string xt)).setCell ⟨g1, i * 4 + 2, none⟩ (.int .i64 (xg + 1))).setCell ⟨g1, i * 4 + 3, none⟩ (.int .i64 now)) px #[.int .u16 xq, .string xt, .int .i64 xg, .int .i64 xa] OT :=
        ((((happ.1.blk BX.out (fun h => h)).setOther (a := ⟨g1, i * 4, none⟩) hpx' _).setOther (a := ⟨g1, i * 4 + 1, none⟩) hpx' _).setOther (a := ⟨g1, i * 4 + 2, none⟩) hpx' _).setOther (a := ⟨g1, i * 4 + 3, none⟩) hpx' _
      have hli := hown4.lies (by intro e; have h7 := congrArg List.length e; rw [List.length_set] at h7; simp only [List.length_nil] at h7; omega) B (fun g' hg' => (show g1 = g' by simpa [Value.ownBlock] using hg') ▸ hBg1)
      have hbs : ∀ g, (Value.slice (some ⟨g1, 0, none⟩) l.length c1').ownBlock = some g → w.heap.size ≤ g := fun g' hg' => (show g1 = g' by simpa [Value.ownBlock] using hg') ▸ (by omega)
      have HFIN := Lib.hid (And.intro hli (And.intro hnew4 (And.intro hty hbs)))
      clear hown1 hgrow1 hat1 happ hown2 hown4 hnew4 hli hty hfr HLR2 HLR3 BX HN2 hle2 x0 x1 x2 x3 HX
      go_upto_region 11 with fail
      refine (show Code.wp _ _ _ _ ((((w3.setCell ⟨g1, i * 4, none⟩ (.int .u16 xq)).setCell ⟨g1, i * 4 + 1, none⟩ (.string xt)).setCell ⟨g1, i * 4 + 2, none⟩ (.int .i64 (xg + 1))).setCell ⟨g1, i * 4 + 3, none⟩ (.int .i64 now)) from ?_)
      clear y0 y1 y2 y3 e0 e1 e2 e3 f0 f1 f2 f3
      generalize ((((w3.setCell ⟨g1, i * 4, none⟩ (.int .u16 xq)).setCell ⟨g1, i * 4 + 1, none⟩ (.string xt)).setCell ⟨g1, i * 4 + 2, none⟩ (.int .i64 (xg + 1))).setCell ⟨g1, i * 4 + 3, none⟩ (.int .i64 now)) = w4 at *
      have y1 := HFIN.out.2.2.1.cell 1
      go_quiet (fail)
      go_wp2
      go_returns
      exact ⟨_, rfl, HFIN.out.1.turns (S := fun _ => False) ((Turns.refl _ _).drewN _) (fun _ _ h => h), HFIN.out.2.1.drewN _, .inr HFIN.out.2.2.2⟩

/-- the reference's Again, in the words of the program's -/
theorem ragain (B : Nat) (v : Value) (r : R) (n now : Int) (w : World) (h : LR B w v r.L) (hok : r.ok) (hl : r.L.length ≤ 1048576) (hBw : B ≤ w.heap.size) (m1 : r.most ≤ 1048576) (g1 : r.gap ≤ 1048576) (t0 : 0 ≤ now) (t1 : now ≤ 1048576) :
    Calls Try.prog 17 #[v, .int .i64 r.most, .int .i64 r.gap, .int .u16 n, .int .i64 now] w fun e w' => ∃ v', e = .returned (.tuple #[v', .string (againS r n now), .int .i64 (againE r n now)]) ∧ LR B w' v' (againR r n now).L ∧ New w w' ∧ (v' = v ∨ ∀ g, v'.ownBlock = some g → w.heap.size ≤ g) := by
  cases hf : lastIdx r.L n with
  | none =>
    have hF : findR r n = none := by unfold findR; rw [hf]
    have e1 : againS r n now = ⟨#[]⟩ := by unfold againS; rw [hF]
    have e2 : againE r n now = 12 := by unfold againE; rw [hF]
    have e3 : againR r n now = r := by unfold againR; rw [hf]
    rw [e1, e2, e3]
    refine (ragain_none B v r.L r.most r.gap n now w h hl hf).mono ?_
    rintro e w' ⟨rfl, hn⟩
    exact ⟨_, rfl, h.turns hn (fun _ _ h => h), hn, .inl rfl⟩
  | some i =>
    obtain ⟨x, hx, _⟩ := lastIdx_some hf
    have hF : findR r n = some x := by unfold findR; rw [hf]; exact hx
    have hxo := hok.p x (List.mem_of_getElem? hx)
    refine ragain_way B v r.L r.most r.gap n now i x.q x.t x.g x.a w h hl hBw hf hx hxo.g0 hxo.g1 hxo.a0 hxo.a1 hok.m0 m1 hok.g0 g1 t0 t1 _ _ _ ?_
    unfold againS againE againR
    rw [hF, hf]
    simp only [hx]
    by_cases h1 : r.most ≤ x.g
    · exact .inl ⟨h1, by rw [if_pos h1], by rw [if_pos h1], by rw [if_pos h1]⟩
    · by_cases h2 : tooSoon r x now = true
      · have h3 : 0 < x.g ∧ now - x.a < r.gap := by unfold tooSoon at h2; simpa using h2
        exact .inr (.inl ⟨by omega, h3.1, h3.2, by rw [if_neg h1, if_pos h2], by rw [if_neg h1, if_pos h2], by rw [if_neg h1, if_pos h2]⟩)
      · have h3 : 0 < x.g ∧ r.gap ≤ now - x.a ∨ ¬ 0 < x.g := by
          unfold tooSoon at h2
          by_cases hp : 0 < x.g
          · simp [hp] at h2; exact .inl ⟨hp, h2⟩
          · exact .inr hp
        exact .inr (.inr ⟨by omega, h3, by rw [if_neg h1, if_neg h2], by rw [if_neg h1, if_neg h2], by rw [if_neg h1, if_neg h2]⟩)
/-- the reference's Put, in the words of the program's -/
theorem putL_is (r : R) (n : Int) (s : ByteArray) (hl : r.L.length ≤ r.size) (hs : 0 < r.size) : putL r.L r.size ⟨n, s, 0, 0⟩ = (putR r n s).L := by
  unfold putL putR
  simp only [List.length_append, List.length_singleton]
  by_cases h : r.L.length < r.size
  · rw [if_neg (by omega), if_pos h]
  · rw [if_pos (by omega), if_neg h]
    cases hL : r.L with
    | nil => rw [hL] at h; exact absurd hs h
    | cons x t => simp
end Go.Proofs.Ytfdmgloimibioaa.rng
