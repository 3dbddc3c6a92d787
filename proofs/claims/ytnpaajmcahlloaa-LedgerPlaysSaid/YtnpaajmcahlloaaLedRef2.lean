/-
  The reference of layer 25: End.
-/
import Derived.Test.YtnpaajmcahlloaaLedRef
namespace Go.Proofs.Ytnpaajmcahlloaa.led
open Go.RowKit mem
set_option linter.unusedVariables false

/-- what the reference's End hands back -/
structure RPost (w w' : World) (v v' : Value) (L : List Fr) : Prop where
  r : Rl w' v' L
  n : New w w'
  src : v' = v ∨ ∀ g, v'.ownBlock = some g → w.heap.size ≤ g

theorem row_put {w : World} {g c : Nat} {L : List Fr} {k : Nat} {x : Fr} (h : Owns OE OT w (.slice (some ⟨g, 0, none⟩) L.length c) L) (hx : L[k]? = some x) (a b d : Int) :
    Owns OE OT (((w.setCell ⟨g, k * 3, none⟩ (.int .i64 a)).setCell ⟨g, k * 3 + 1, none⟩ (.int .i64 b)).setCell ⟨g, k * 3 + 2, none⟩ (.int .i64 d)) (.slice (some ⟨g, 0, none⟩) L.length c) (L.set k ⟨a, d, b⟩) := by
  have hk := (List.getElem?_eq_some_iff.1 hx).1
  have o1 := h.setCell (g := g) (j := k) (i := 0) rfl hx (y := ⟨a, x.fate, x.en⟩) (.int .i64 a) (by decide) rfl
  have o2 := o1.setCell (g := g) (j := k) (i := 1) rfl (x := ⟨a, x.fate, x.en⟩) (by rw [List.getElem?_set_self hk]) (y := ⟨a, x.fate, b⟩) (.int .i64 b) (by decide) rfl
  rw [List.set_set] at o2
  have o3 := o2.setCell (g := g) (j := k) (i := 2) rfl (x := ⟨a, x.fate, b⟩) (by rw [List.getElem?_set_self hk]) (y := ⟨a, d, b⟩) (.int .i64 d) (by decide) rfl
  rwa [List.set_set] at o3
theorem endL_ok {L : List Fr} (h : ∀ x ∈ L, x.ok) {n f now : Int} (n0 : 0 ≤ now) (n1 : now ≤ 1048576) : ∀ x ∈ endL L n f now, x.ok := by
  unfold endL
  split
  · rename_i he
    split
    · rename_i x hx
      intro y hy
      rcases List.mem_or_eq_of_mem_set hy with hy | rfl
      · exact h y hy
      · have hxo := h x (List.mem_of_getElem? hx)
        unfold endE at he
        rw [hx] at he
        have hf : 1 ≤ f ∧ f ≤ 3 := by
          by_cases h0 : 0 ≤ n <;> by_cases h1 : (1 ≤ f ∧ f ≤ 3) <;> simp [h0, h1] at he
          exact h1
        exact ⟨hxo.a0, hxo.a1, by show 0 ≤ f; omega, hf.2, n0, n1⟩
    · exact h
  · exact h
theorem endL_len (L : List Fr) (n f now : Int) : (endL L n f now).length = L.length := by
  unfold endL
  split
  · split
    · rw [List.length_set]
    · rfl
  · rfl

set_option maxHeartbeats 1000000 in
theorem rend (v : Value) (L : List Fr) (n f now : Int) (w : World) (h : Rl w v L) (n0 : 0 ≤ now) (n1 : now ≤ 1048576) :
    Calls Try.prog 10 #[v, .int .i64 n, .int .i64 f, .int .i64 now] w fun e w' => ∃ v', e = .returned (.tuple #[v', .int .i64 (endE L n f)]) ∧ RPost w w' v v' (endL L n f now) := by
  have HR := Lib.hid h
  have hlen := h.len
  obtain ⟨ao, c, hv, hc, hat⟩ := h.at_
  have HOK := Lib.hid (endL_ok h.ok (n := n) (f := f) n0 n1)
  have HLN := Lib.hid (endL_len L n f now)
  cases hb : hasB L n
  · have HE := Lib.hid (end_none (f := f) now hb)
    rw [HE.out.1, HE.out.2]
    unfold hasB at hb
    subst hv
    clear h hat HOK HLN
    by_cases h0 : n < 0
    · have d0 : decide (n < 0) = true := decide_eq_true h0
      clear h0 hb
      go_enter Try.func10, Try.ntmps10
      go_wp2_with fail
      go_ret2
      exact ⟨_, rfl, HR.out, Turns.refl _ _, .inl rfl⟩
    · have d0 : decide (n < 0) = false := decide_eq_false h0
      have d1 : decide ((L.length : Int) ≤ n) = true := decide_eq_true (by simp at hb; omega)
      clear h0 hb
      go_enter Try.func10, Try.ntmps10
      go_wp2_with fail
      go_ret2
      exact ⟨_, rfl, HR.out, Turns.refl _ _, .inl rfl⟩
  · obtain ⟨k, rfl, x, hx⟩ := hasB_at hb
    have hkl : k < L.length := (List.getElem?_eq_some_iff.1 hx).1
    have d0 : decide ((k : Int) < 0) = false := decide_eq_false (by omega)
    have d1 : decide ((L.length : Int) ≤ (k : Int)) = false := decide_eq_false (by omega)
    have HX := Lib.hid hx
    clear hb
    by_cases h1 : f < 1
    · have HE := Lib.hid (end_kind (f := f) now hx (by omega))
      rw [HE.out.1, HE.out.2]
      have d2 : decide (f < 1) = true := decide_eq_true h1
      subst hv
      clear h hat h1 hx HOK HLN
      go_enter Try.func10, Try.ntmps10
      go_wp2_with fail
      go_ret2
      exact ⟨_, rfl, HR.out, Turns.refl _ _, .inl rfl⟩
    · have d2 : decide (f < 1) = false := decide_eq_false h1
      by_cases h2 : 3 < f
      · have HE := Lib.hid (end_kind (f := f) now hx (by omega))
        rw [HE.out.1, HE.out.2]
        have d3 : decide (3 < f) = true := decide_eq_true h2
        subst hv
        clear h hat h1 h2 hx HOK HLN
        go_enter Try.func10, Try.ntmps10
        go_wp2_with fail
        go_ret2
        exact ⟨_, rfl, HR.out, Turns.refl _ _, .inl rfl⟩
      · have d3 : decide (3 < f) = false := decide_eq_false h2
        have hf : 1 ≤ f ∧ f ≤ 3 := by omega
        obtain ⟨g, rfl, hg, z0, z1, z2⟩ := hat k x hx
        clear hat h1 h2
        by_cases h0 : x.fate = 0
        · have HE := Lib.hid (end_ok (f := f) now hx hf h0)
          rw [HE.out.1]
          have hb0 : (x.fate != 0) = false := by simp [h0]
          have HLI : Hid (Lies OE 0 (w.alloc (.cells #[] OT)) v L) := Lib.hid ((h.own.lies (by intro e; simp [e] at hkl) 0 (fun _ _ => Nat.zero_le _)).turns (S := fun _ => False) ((Turns.refl _ _).alloc _) (fun _ _ h => h))
          have HO : Hid (Owns OE OT (w.alloc (.cells #[] OT)) (.slice (some ⟨w.heap.size, 0, none⟩) 0 0) []) := Lib.hid ⟨by simp [Enc.all], .inr ⟨w.heap.size, 0, #[], rfl, Nat.zero_le _, Blk.new _ _ _, Nat.le_refl _, Nat.zero_le _, by simp, by simp [Enc.all]⟩⟩
          subst hv
          clear h hx h0 hf z1
          generalize hxf : x.fate = xf at *
          generalize hxa : x.acc = xa at *
          have HXF := Lib.hid (And.intro hxf hxa)
          clear hxf hxa
          generalize hlL : L.length = len at *
          have HLL := Lib.hid hlL
          clear hlL
          have hll : Hid (([] : List Fr).length + L.length ≤ 1048576) := Lib.hid (by have := HLL.out; simp; omega)
          have hknI : (k : Int) < (len : Int) := by omega
          go_enter Try.func10, Try.ntmps10
          go_upto_region 8 with (at_builtin; refine wpList_append_lying (E := OE) Try.underlying28 infoO rfl (by decide) (by decide) rfl _ _ rfl _ [] L rfl HO.out _ rfl 0 HLI.out hll.out ?_; intro v1 w1 hown1 hgrow1 hat1)
          have hown2 : Owns OE OT w1 v1 L := hown1
          have HT1 : Hid (New w w1 ∧ ∀ g, v1.ownBlock = some g → w.heap.size ≤ g) := Lib.hid (by
            refine ⟨((Turns.refl _ _).alloc _).trans ((Turns.of_grown hgrow1).mono (fun m _ hm => .inr (by have e : some m = some w.heap.size := hm; injection e with e; omega))), fun g' hg' => ?_⟩
            rcases hat1 with e | e
            · have e2 : some g' = some w.heap.size := hg'.symm.trans e
              injection e2 with e2; omega
            · have e2 := hg'.symm.trans e
              injection e2 with e2; simp at e2; omega)
          obtain ⟨a1, c1, hv1, hc1, hrd, hob⟩ := hown2.form
          obtain ⟨g1, ea, hg1, hcl⟩ : ∃ g1, a1 = some ⟨g1, 0, none⟩ ∧ g1 < w1.heap.size ∧ ∀ (k : Nat) (u : Fr), L[k]? = some u → ∀ (j : Nat) (x : Value), (OE.cs u)[j]? = some x → w1.cell? ⟨g1, k * 3 + j, none⟩ = some x := by
            rcases hrd with e | e
            · have := HX.out; rw [e] at this; simp at this
            · exact e
          subst ea
          have y0 : w1.cell? ⟨g1, k * 3, none⟩ = some (.int .i64 x.acc) := hcl k x HX.out 0 _ rfl
          have y1 : w1.cell? ⟨g1, k * 3 + 1, none⟩ = some (.int .i64 x.en) := hcl k x HX.out 1 _ rfl
          have y2 : w1.cell? ⟨g1, k * 3 + 2, none⟩ = some (.int .i64 x.fate) := hcl k x HX.out 2 _ rfl
          rw [HXF.out.1] at y2
          rw [HXF.out.2] at y0
          have hfr : ∀ o, w1.frozen? ⟨g1, o, none⟩ = false := by
            rcases hown2.2 with ⟨e, _⟩ | ⟨g', cap, cur, e, _, hg, _⟩
            · rw [hv1] at e; exact absurd e (by simp)
            · rw [hv1] at e
              injection e with e _ _
              injection e with e
              injection e with e
              subst e; exact (show Blk w1 g1 cur OT from hg).free
          have q0 := hfr (k * 3)
          have q1 := hfr (k * 3 + 1)
          have q2 := hfr (k * 3 + 2)
          rw [hv1] at hown2
          have HRP := Lib.hid (row_put hown2 HX.out xa now f)
          have hz0 := (HT1.out.1.cell (a := ⟨g, k * 3, none⟩) hg (fun h => h)).trans z0
          rw [HLL.out] at hv1 hc1 HRP
          subst hv1
          have HG1 : Hid (w.heap.size ≤ g1) := Lib.hid (HT1.out.2 g1 rfl)
          clear hown1 hown2 hgrow1 hat1 hrd hob hcl hfr HO HLI hll z0 z2
          go_wp2_with fail
          go_ret2
          refine ⟨_, rfl, ⟨?_, by rw [HLN.out]; exact hlen, HOK.out⟩, ((((HT1.out.1.setCell (p := ⟨g1, k * 3, none⟩) (.inr HG1.out) _).setCell (p := ⟨g1, k * 3 + 1, none⟩) (.inr HG1.out) _)).setCell (p := ⟨g1, k * 3 + 2, none⟩) (.inr HG1.out) _), .inr (fun g' hg' => ?_)⟩
          · rw [HE.out.2]
            have := HRP.out
            unfold endX
            first | exact this | (rw [HXF.out.2]; exact this)
          · have e : g1 = g' := by simpa [Value.ownBlock] using hg'
            rw [← e]; exact HG1.out
        · have HE := Lib.hid (end_twice (f := f) now hx hf h0)
          rw [HE.out.1, HE.out.2]
          have hb0 : (x.fate != 0) = true := by simp [h0]
          subst hv
          clear h hx h0 hf HOK HLN
          generalize x.fate = xf at *
          generalize hlL : L.length = len at *
          have HLL := Lib.hid hlL
          clear hlL
          have hknI : (k : Int) < (len : Int) := by omega
          go_enter Try.func10, Try.ntmps10
          go_wp2_with fail
          go_ret2
          exact ⟨_, rfl, HR.out, Turns.refl _ _, .inl rfl⟩
end Go.Proofs.Ytnpaajmcahlloaa.led
