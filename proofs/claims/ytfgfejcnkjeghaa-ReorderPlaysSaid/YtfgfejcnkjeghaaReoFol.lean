/-
  reorder.Buffer: follow, skip.
-/
import Derived.Test.YtfgfejcnkjeghaaReoIn2
namespace Go.Proofs.Ytfgfejcnkjeghaa.reo
open Go.RowKit mem
set_option linter.unusedVariables false

abbrev Foot (p : Nat) (v : Value) (k : Nat) : Prop := k = p ∨ v.ownBlock = some k
/-- in the middle of a call that began at w0, with the buffer's things in v0: the buffer, and what goes out -/
structure Two (w0 : World) (p : Nat) (v0 : Value) (w : World) (v : Value) (b : B) (vo : Value) (o : List Th) : Prop where
  bs : Bs w p v b
  out : Owns TE PT w vo o
  ob : ∀ g, vo.ownBlock = some g → w0.heap.size ≤ g
  pb : p < w0.heap.size
  vo : ∀ g, v.ownBlock = some g → vo.ownBlock ≠ some g
  t : Turns (Foot p v0) w0 w
  src : ∀ g, v.ownBlock = some g → v0.ownBlock = some g ∨ w0.heap.size ≤ g
section
variable {w0 : World} {p : Nat} {v0 : Value} {w w' : World} {v : Value} {b : B} {vo : Value} {o : List Th}
theorem Two.start (h : Bs w0 p v0 b) : Two w0 p v0 w0 v0 b (.slice none 0 0) [] :=
  ⟨h, Owns.nil _ _, fun g hg => by simp [Value.ownBlock] at hg, h.lt, fun g hg e => by simp [Value.ownBlock] at e, Turns.refl _ _, fun g hg => .inl hg⟩
theorem Two.later (h : Two w0 p v0 w v b vo o) (n : New w w') : Two w0 p v0 w' v b vo o :=
  ⟨h.bs.later n, h.out.turns n (fun _ _ h => h), h.ob, h.pb, h.vo, h.t.trans (n.mono (fun _ _ h => h.elim)), h.src⟩
theorem Two.drewN (h : Two w0 p v0 w v b vo o) (n : Nat) : Two w0 p v0 (w.drewN n) v b vo o := h.later ((Turns.refl _ _).drewN n)
theorem Two.drew (h : Two w0 p v0 w v b vo o) : Two w0 p v0 w.drew v b vo o := h.later ((Turns.refl _ _).drew)
/-- a cell of the buffer is stored -/
theorem Two.set (h : Two w0 p v0 w v b vo o) (i : Nat) (u : Value) (b' : B) (hL : b'.L = b.L) (hc : (bcells b v).set i u = bcells b' v) : Two w0 p v0 (w.setCell ⟨p, i, none⟩ u) v b' vo o := by
  have t1 : Turns (· = p) w (w.setCell ⟨p, i, none⟩ u) := (Turns.refl (· = p) _).setCell (.inl rfl) _
  have hb := h.bs.blk.set i u
  rw [List.setIfInBounds_toArray, hc] at hb
  refine ⟨⟨hb, by rw [hL]; exact h.bs.own.turns t1 (fun g hg e => h.bs.ne (by rw [hg, e])), h.bs.ne⟩, h.out.turns t1 (fun g hg e => ?_), h.ob, h.pb, h.vo, h.t.trans (t1.mono (fun k _ hk => .inl (.inl hk))), h.src⟩
  have := h.ob g hg
  have := h.pb
  omega
/-- what goes out has grown -/
theorem Two.push {w2 : World} {vo' : Value} {l : List Th} (h : Two w0 p v0 w v b vo o) (ho : Owns TE PT w2 vo' (o ++ l)) (hg : w.grownBy w2 vo.ownBlock) (ha : vo'.ownBlock = vo.ownBlock ∨ vo'.ownBlock = some w.heap.size) : Two w0 p v0 w2 v b vo' (o ++ l) := by
  have t1 : Turns (fun k => some k = vo.ownBlock) w w2 := Turns.of_grown hg
  refine ⟨⟨t1.blk h.bs.blk (fun e => by have := h.ob p e.symm; have := h.pb; omega), h.bs.own.turns t1 (fun g hg e => h.vo g hg e.symm), h.bs.ne⟩, ho, fun g hg => ?_, h.pb, fun g hv e => ?_, h.t.trans (t1.mono (fun k _ hk => .inr (h.ob k hk.symm))), h.src⟩
  · rcases ha with e | e
    · exact h.ob g (by rw [← e]; exact hg)
    · rw [e] at hg; injection hg with hg; have := h.t.size; omega
  · rcases ha with e' | e'
    · exact h.vo g hv (by rw [← e']; exact e)
    · rw [e'] at e; injection e with e; have := h.bs.own.lt g hv; omega
/-- the things lie elsewhere, or fewer -/
theorem Two.swap {w2 : World} {v' : Value} {L : List Th} (h : Two w0 p v0 w v b vo o) (ho : Owns TE PT w2 v' L) (ht : Turns (fun k => v.ownBlock = some k) w w2) (hs : ∀ g, v'.ownBlock = some g → v.ownBlock = some g ∨ w.heap.size ≤ g) : Two w0 p v0 (w2.setCell ⟨p, 2, none⟩ v') v' { b with L := L } vo o := by
  have hb2 := ht.blk h.bs.blk h.bs.ne
  have hne : v'.ownBlock ≠ some p := fun e => (hs p e).elim h.bs.ne (fun k => by have := h.bs.lt; omega)
  have t1 : Turns (· = p) w2 (w2.setCell ⟨p, 2, none⟩ v') := (Turns.refl (· = p) _).setCell (.inl rfl) _
  have hb := hb2.set 2 v'
  rw [List.setIfInBounds_toArray] at hb
  refine ⟨⟨hb, ho.turns t1 (fun g hg e => hne (by rw [hg, e])), hne⟩, (h.out.turns ht (fun g hg e => h.vo g e hg)).turns t1 (fun g hg e => ?_), h.ob, h.pb, fun g hv e => ?_, (h.t.trans (ht.mono (fun k _ hk => ?_))).trans (t1.mono (fun k _ hk => .inl (.inl hk))), fun g hg => ?_⟩
  · have := h.ob g hg; have := h.pb; omega
  · rcases hs g hv with k | k
    · exact h.vo g k e
    · have := h.out.lt g e; omega
  · rcases h.src k hk with k | k
    · exact .inl (.inr k)
    · exact .inr k
  · rcases hs g hg with k | k
    · exact h.src g k
    · exact .inr (Nat.le_trans h.t.size k)
end

set_option maxRecDepth 10000 in
set_option maxHeartbeats 4000000 in
theorem follow_ {w0 : World} {p : Nat} {v0 : Value} {w : World} {v : Value} {b : B} {vo : Value} {o : List Th} {M : Int} (h : Two w0 p v0 w v b vo o) (ho : b.ok M) (hM : M ≤ 1099511627776) (hl : o.length ≤ 100000) :
    Calls Try.prog 29 #[.pointer (some ⟨p, 0, none⟩), vo] w fun e w' => ∃ v' vo', e = .returned vo' ∧ Two w0 p v0 w' v' (follow b) vo' (o ++ followO b) := by
  have HO := Lib.hid ho
  have hlen := ho.len
  have n1 := ho.n1
  have n2 := ho.n2
  have H0 : Hid (Two w0 p v0 w v { b with next := b.next + ((0 : Nat) : Int) } vo o) := Lib.hid (by simpa using h)
  have hRl := runN_le b.L b.next
  obtain ⟨R, hR⟩ : ∃ R, R = runN b.next b.L := ⟨_, rfl⟩
  rw [← hR] at hRl
  have HR := Lib.hid hR
  clear h ho hR
  go_enter Try.func29, Try.ntmps29
  go_wp2_with fail
  go_loopw [5] (fun n wr => ∃ k : Nat, k ≤ R ∧ n = .int .i64 k ∧ Two w0 p v0 wr v { b with next := b.next + (k : Int) } vo o) (fun n _ => b.L.length - (intOf n).toNat)
  case atStart => exact ⟨0, Nat.zero_le _, rfl, H0.out⟩
  case round =>
    obtain ⟨k, hk, rfl, hj⟩ := hrel
    clear H0
    have HJ := Lib.hid hj
    obtain ⟨ao, c, hv, hc, hat⟩ := hj.bs.at_
    have c2 := hj.bs.c2
    have c3 := hj.bs.c3
    have f3 := hj.bs.f 3
    dsimp only at hv hc hat c3
    clear hj
    by_cases hgo : k < R
    · have hlt : k < b.L.length := by omega
      have HX : Hid (b.L[k].at_ = b.next + k) := Lib.hid (runN_at b.L b.next k hlt (by rw [← HR.out]; exact hgo))
      have hX2 := HO.out.at2 _ (List.getElem_mem hlt)
      obtain ⟨g, hao, _, hg, z0, z1, z2⟩ := hat k _ (List.getElem?_eq_getElem hlt)
      rw [HX.out] at z0 hX2
      clear hat HX z1 z2
      subst hao
      subst hv
      have hs1 : IntKind.i64.wrap (b.next + (k : Int) + 1) = b.next + (k : Int) + 1 := IntWalk.i64_in _ (by omega)
      have HF : Hid (∀ n, Two w0 p v0 ((wr.drewN n).setCell ⟨p, 3, none⟩ (.int .i64 (b.next + (k : Int) + 1))) (.slice (some ⟨g, 0, none⟩) b.L.length c) { b with next := b.next + ((k + 1 : Nat) : Int) } vo o) := Lib.hid (fun n => (HJ.out.drewN n).set 3 _ _ rfl (by
        simp only [bcells, List.set_cons_succ, List.set_cons_zero]
        congr 5
        push_cast
        omega))
      generalize b.next = nx at *
      have hltI : (k : Int) < (b.L.length : Int) := by omega
      have dlt : decide ((k : Int) < (b.L.length : Int)) = true := decide_eq_true hltI
      generalize b.L.length = len at *
      go_upto_region 2 with fail
      go_quiet (fail)
      go_wp2
      go_roundw
      case rel => exact ⟨k + 1, by omega, by go_num, HF.out _⟩
      case measure => simp [intOf]; omega
    · have hkR : k = R := by omega
      subst hkR
      clear hgo
      have HD : Hid (follow b = { b with L := b.L.drop k, next := b.next + (k : Int) } ∧ followO b = b.L.take k) := Lib.hid ⟨by unfold follow; rw [← HR.out], by unfold followO; rw [← HR.out]⟩
      have HLL : Hid (o.length + (b.L.take k).length ≤ 1048576 ∧ b.L.length ≤ 1048576) := Lib.hid (by rw [List.length_take]; omega)
      have HSB : Hid (∀ n w2 vo', Owns TE PT w2 vo' (o ++ b.L.take k) → (wr.drewN n).grownBy w2 vo.ownBlock → (vo'.ownBlock = vo.ownBlock ∨ vo'.ownBlock = some (wr.drewN n).heap.size) → Two w0 p v0 w2 v { b with next := b.next + (k : Int) } vo' (o ++ b.L.take k)) := Lib.hid (fun n w2 vo' h1 h2 h3 => (HJ.out.drewN n).push h1 h2 h3)
      have HOB := Lib.hid (fun n => (HJ.out.drewN n).out)
      rcases HJ.out.bs.own.2 with ⟨rfl, h0⟩ | ⟨g, cap, cur, rfl, _, _, hcap, hcm, _, _⟩
      · -- nothing waits
        dsimp only at h0
        obtain rfl : k = 0 := by omega
        have HSU : Hid (∀ n, Sub TE 0 (wr.drewN n) (.slice none 0 0) (b.L.take 0)) := Lib.hid (fun n => by rw [List.take_zero]; exact Sub.nil _ _ _)
        have dlt : decide (((0 : Nat) : Int) < ((0 : Nat) : Int)) = false := decide_eq_false (by omega)
        have dlt0 : decide ((0 : Int) < (0 : Int)) = false := rfl
        clear hat hv hc
        go_upto_region 2 with fail
        go_quiet (fail)
        go_wp2_with (at_builtin; refine wpList_append_sub (E := TE) Try.underlying45 infoT rfl (by decide) (by decide) rfl _ _ rfl _ o (b.L.take 0) rfl (HOB.out _) _ rfl 0 (HSU.out _) HLL.out.1 ?_)
        all_goals
          intro vo2 w2 hown hgrow hat2
          have h2 := HSB.out _ w2 vo2 (by first | exact hown | simpa using hown) hgrow hat2
          have H2 := Lib.hid h2
          have c2' := h2.bs.c2
          clear hown hgrow hat2 h2 c2 c3 f3
          go_wp2_with fail
          refine (delete _ b.L 0 w2 H2.out.bs.own (Nat.zero_le _) HLL.out.2).mono ?_
          rintro e w3 ⟨v3, rfl, own3, t3, e3⟩
          obtain ⟨ao3, n3, cc3, hv3⟩ : ∃ ao n c, v3 = .slice ao n c := (by obtain ⟨a, c, e, _⟩ := own3.form; exact ⟨_, _, _, e⟩)
          subst hv3
          have H3 := Lib.hid (H2.out.swap own3 t3 (fun g' hg' => .inl (by rw [← e3]; exact hg')))
          have hf2 := (t3.blk H2.out.bs.blk H2.out.bs.ne).free 2
          have hc2 := (t3.blk H2.out.bs.blk H2.out.bs.ne).cell 2
          change w3.cell? ⟨p, 2, none⟩ = some _ at hc2
          clear own3 t3 e3 c2'
          go_wp2
          go_ret
          exact ⟨_, vo2, rfl, by rw [HD.out.1, HD.out.2]; exact H3.out⟩
      · have HSU : Hid (∀ n, Sub TE 0 (wr.drewN n) (.slice (some ⟨g, 0, none⟩) k cap) (b.L.take k)) := Lib.hid (fun n => .inr ((HJ.out.drewN n).bs.own.sub 0 (fun _ _ => Nat.zero_le _) |>.resolve_left (fun e => by cases e.1) |> fun hh => hh.take k (by show k ≤ b.L.length; omega)))
        have hcm' : cap ≤ 9223372036854775807 := by unfold maxLen at hcm; omega
        dsimp only at hcap
        have hkc : k ≤ cap := by omega
        have hkcI : (k : Int) ≤ (cap : Int) := by omega
        by_cases hlt : k < b.L.length
        · have HX : Hid (¬ (b.L[k].at_ = b.next + k)) := Lib.hid (fun e => by
            have := (runN_go b.L b.next k (by rw [← HR.out]; exact Nat.le_refl _) hlt).1 e
            rw [← HR.out] at this
            omega)
          obtain ⟨g', hao, hgo', hg, z0, z1, z2⟩ := hat k _ (List.getElem?_eq_getElem hlt)
          injection hv with e1 _ e3
          subst e1 e3
          injection hao with hao
          injection hao with hao
          subst hao
          clear hat z1 z2 hgo'
          generalize b.L[k].at_ = xa at *
          have hx2 : (xa == b.next + (k : Int)) = false := by simpa using HX.out
          have hltI : (k : Int) < (b.L.length : Int) := by omega
          have dlt : decide ((k : Int) < (b.L.length : Int)) = true := decide_eq_true hltI
          have hkl : k ≤ b.L.length := by omega
          clear hlt hc
          go_upto_region 2 with fail
          go_quiet (fail)
          go_wp2_with (at_builtin; refine wpList_append_sub (E := TE) Try.underlying45 infoT rfl (by decide) (by decide) rfl _ _ rfl _ o (b.L.take k) rfl (HOB.out _) _ rfl 0 (HSU.out _) HLL.out.1 ?_)
          all_goals
            intro vo2 w2 hown hgrow hat2
            have h2 := HSB.out _ w2 vo2 (by first | exact hown | simpa using hown) hgrow hat2
            have H2 := Lib.hid h2
            have c2' := h2.bs.c2
            clear hown hgrow hat2 h2 c2 c3 f3
            go_wp2_with fail
            refine (delete _ b.L k w2 H2.out.bs.own hkl HLL.out.2).mono ?_
            rintro e w3 ⟨v3, rfl, own3, t3, e3⟩
            obtain ⟨ao3, n3, cc3, hv3⟩ : ∃ ao n c, v3 = .slice ao n c := (by obtain ⟨a, c, e, _⟩ := own3.form; exact ⟨_, _, _, e⟩)
            subst hv3
            have H3 := Lib.hid (H2.out.swap own3 t3 (fun g' hg' => .inl (by rw [← e3]; exact hg')))
            have hf2 := (t3.blk H2.out.bs.blk H2.out.bs.ne).free 2
            have hc2 := (t3.blk H2.out.bs.blk H2.out.bs.ne).cell 2
            change w3.cell? ⟨p, 2, none⟩ = some _ at hc2
            clear own3 t3 e3 c2'
            go_wp2
            go_ret
            exact ⟨_, vo2, rfl, by rw [HD.out.1, HD.out.2]; exact H3.out⟩
        · obtain rfl : k = b.L.length := by omega
          have dlt : decide ((b.L.length : Int) < (b.L.length : Int)) = false := decide_eq_false (by omega)
          clear hat hlt hc
          go_upto_region 2 with fail
          go_quiet (fail)
          go_wp2_with (at_builtin; refine wpList_append_sub (E := TE) Try.underlying45 infoT rfl (by decide) (by decide) rfl _ _ rfl _ o (b.L.take b.L.length) rfl (HOB.out _) _ rfl 0 (HSU.out _) HLL.out.1 ?_)
          all_goals
            intro vo2 w2 hown hgrow hat2
            have h2 := HSB.out _ w2 vo2 (by first | exact hown | simpa using hown) hgrow hat2
            have H2 := Lib.hid h2
            have c2' := h2.bs.c2
            clear hown hgrow hat2 h2 c2 c3 f3
            go_wp2_with fail
            refine (delete _ b.L b.L.length w2 H2.out.bs.own (Nat.le_refl _) HLL.out.2).mono ?_
            rintro e w3 ⟨v3, rfl, own3, t3, e3⟩
            obtain ⟨ao3, n3, cc3, hv3⟩ : ∃ ao n c, v3 = .slice ao n c := (by obtain ⟨a, c, e, _⟩ := own3.form; exact ⟨_, _, _, e⟩)
            subst hv3
            have H3 := Lib.hid (H2.out.swap own3 t3 (fun g' hg' => .inl (by rw [← e3]; exact hg')))
            have hf2 := (t3.blk H2.out.bs.blk H2.out.bs.ne).free 2
            have hc2 := (t3.blk H2.out.bs.blk H2.out.bs.ne).cell 2
            change w3.cell? ⟨p, 2, none⟩ = some _ at hc2
            clear own3 t3 e3 c2'
            go_wp2
            go_ret
            exact ⟨_, vo2, rfl, by rw [HD.out.1, HD.out.2]; exact H3.out⟩

/-- as follow_, in a block that the buffer's number is passed over -/
theorem skip_ {w0 : World} {p : Nat} {v0 : Value} {w : World} {v : Value} {b : B} {vo : Value} {o : List Th} {M : Int} (h : Two w0 p v0 w v b vo o) (ho : b.ok M) (hM : M ≤ 1099511627776) (hl : o.length ≤ 100000) (hne : b.L ≠ []) :
    Calls Try.prog 25 #[.pointer (some ⟨p, 0, none⟩), vo] w fun e w' => ∃ v' vo', e = .returned vo' ∧ Two w0 p v0 w' v' (skip b) vo' (o ++ skipO b) := by
  obtain ⟨x, r, hx⟩ : ∃ x r, b.L = x :: r := by
    cases e : b.L with
    | nil => exact absurd e hne
    | cons x r => exact ⟨x, r, rfl⟩
  have hlow : low b = x.at_ := by unfold low; rw [hx]
  obtain ⟨b1, b2⟩ := low_le ho
  have HFO := Lib.hid (fun (W : World) (hW : Two w0 p v0 W v (passed b) vo o) => follow_ hW (passed_ok ho) hM hl)
  obtain ⟨ao, c, hv, hc, hat⟩ := h.bs.at_
  obtain ⟨g, hao, hgo, hg, z0, z1, z2⟩ := hat 0 x (by rw [hx]; rfl)
  have c2 := h.bs.c2
  have c3 := h.bs.c3
  have c5 := h.bs.c5
  have f3 := h.bs.f 3
  have f5 := h.bs.f 5
  have n1 := ho.n1
  have n2 := ho.n2
  have l1 := ho.l1
  have l2 := ho.l2
  have hl0 : 0 < b.L.length := by rw [hx]; simp
  have hpg : p ≠ g := fun e => h.bs.ne (by rw [hgo, e])
  rw [hlow] at b1 b2
  have H1 := Lib.hid (fun (n : Nat) => ((h.drewN n).set 5 (.int .i64 (b.lost + (x.at_ - b.next))) { b with lost := b.lost + (x.at_ - b.next) } rfl rfl).set 3 (.int .i64 x.at_) (passed b) rfl (by unfold passed; rw [hlow]; rfl))
  clear hat h hx hlow hne ho z1 z2
  subst hao
  subst hv
  generalize x.at_ = xa at *
  generalize b.next = nx at *
  generalize b.lost = lo at *
  have s1 : IntKind.i64.wrap (xa - nx) = xa - nx := IntWalk.i64_in _ (by omega)
  have s2 : IntKind.i64.wrap (lo + (xa - nx)) = lo + (xa - nx) := IntWalk.i64_in _ (by omega)
  have hl0I : (0 : Int) < (b.L.length : Int) := by omega
  go_enter Try.func25, Try.ntmps25
  go_upto_region 2 with fail
  go_region
  all_goals
    go_wp2_with fail
    refine (HFO.out _ (H1.out _)).mono ?_
    rintro e w2 ⟨v', vo', rfl, h2⟩
    have H2 := Lib.hid h2
    clear h2
    go_wp2
    go_ret
    exact ⟨v', vo', rfl, H2.out⟩
end Go.Proofs.Ytfgfejcnkjeghaa.reo
