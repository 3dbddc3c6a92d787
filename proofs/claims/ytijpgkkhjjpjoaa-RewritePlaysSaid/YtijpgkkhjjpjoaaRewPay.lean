/-
  rewrite.Out: count, payload.
-/
import Derived.Test.YtijpgkkhjjpjoaaRewSeq
import Derived.Test.YtijpgkkhjjpjoaaVpMath
import Derived.Test.YtijpgkkhjjpjoaaVpWithV
namespace Go.Proofs.Ytijpgkkhjjpjoaa.rew
open Go.RowKit mem
set_option linter.unusedVariables false

def par (s : ByteArray) : vp.D := vp.outD (s.data.toList, 0)
def er (s : ByteArray) : Int := (vp.pS (s.data.toList, 0)).2
def rst (s : ByteArray) : ByteArray := ⟨(vp.outL (s.data.toList, 0)).toArray⟩
def levO (o : O) (s : ByteArray) : O := if er s = 0 ∧ (par s).lay ≤ 0 then { o with lev := (o.lev + 1) % 256 } else o
def countO (o : O) (s : ByteArray) : O := levO { o with pic := (o.pic + 1) % 32768 } s
theorem parse_ (s : ByteArray) (w : World) (hs : s.size ≤ 4611686018427387904) :
    Calls Try.prog 20 #[.string s] w fun e w' => e = .returned (.tuple #[.agg (vp.cells (par s)), .string (rst s), .int .i64 (er s)]) ∧ New w w' := vp.parse s w hs

theorem count (p : Nat) (o : O) (s : ByteArray) (w : World) (h : Ot w p o) (ho : o.ok) (hs : s.size ≤ 1048576) :
    Calls Try.prog 25 #[.pointer (some ⟨p, 0, none⟩), .string s] w fun e w' => e = .returned (.tuple #[]) ∧ At w w' p (countO o s) := by
  obtain ⟨q0, q1, p0, p1, l0, l1, _, _, _, _, _, _⟩ := ho
  have c4 := h.c4
  have f4 := h.f 4
  have t1 : Int.tmod (o.pic + 1) 32768 = (o.pic + 1) % 32768 := Int.tmod_eq_emod_of_nonneg (by omega)
  have t2 : Int.tmod (o.lev + 1) 256 = (o.lev + 1) % 256 := Int.tmod_eq_emod_of_nonneg (by omega)
  have h1 : At w (w.setCell ⟨p, 4, none⟩ (.int .i64 ((o.pic + 1) % 32768))) p { o with pic := (o.pic + 1) % 32768 } := ⟨h.s4 _, (Turns.refl (· = p) w).setCell (.inl rfl) _⟩
  have H1 := Lib.hid h1
  have HP := Lib.hid (fun w => parse_ s w (by omega))
  have HE : Hid (countO o s = if er s = 0 ∧ (par s).lay ≤ 0 then { o with pic := (o.pic + 1) % 32768, lev := (o.lev + 1) % 256 } else { o with pic := (o.pic + 1) % 32768 }) := Lib.hid rfl
  clear h h1
  generalize par s = d at *
  generalize er s = er at *
  generalize rst s = rs at *
  obtain ⟨nr, st, part, pic, wide, lev, lay, sync, key⟩ := d
  dsimp only at *
  simp only [vp.cells] at HP
  go_enter Try.func25, Try.ntmps25
  go_wp2_with fail
  refine (HP.out _).mono ?_
  rintro e w1 ⟨rfl, n1⟩
  have h2 := (at_new H1.out n1).1
  have A2 := Lib.hid (at_new H1.out n1)
  clear H1 HP n1 c4 f4
  go_upto_region 2 with fail
  have n3 : New w1 (w1.alloc (.cells #[.bool nr, .bool st, .int .i64 part, .int .i64 pic, .bool wide, .int .i64 lev, .int .i64 lay, .bool sync, .int .i64 key] vp.DT)) := (Turns.refl _ _).alloc _
  have hb3 : Blk (w1.alloc (.cells #[.bool nr, .bool st, .int .i64 part, .int .i64 pic, .bool wide, .int .i64 lev, .int .i64 lay, .bool sync, .int .i64 key] vp.DT)) w1.heap.size #[.bool nr, .bool st, .int .i64 part, .int .i64 pic, .bool wide, .int .i64 lev, .int .i64 lay, .bool sync, .int .i64 key] vp.DT := Blk.new _ _ _
  have h3 := at_new A2.out n3
  generalize w1.alloc (.cells #[.bool nr, .bool st, .int .i64 part, .int .i64 pic, .bool wide, .int .i64 lev, .int .i64 lay, .bool sync, .int .i64 key] vp.DT) = w3 at *
  generalize w1.heap.size = pd at *
  have k6 : w3.cell? ⟨pd, 6, none⟩ = some (.int .i64 lay) := hb3.cell 6
  have c5 := h3.1.c5
  have f5 := h3.1.f 5
  have A4 := Lib.hid (And.intro (h3.1.s5 ((o.lev + 1) % 256)) (h3.2.setCell (p := ⟨p, 5, none⟩) (.inl rfl) (.int .i64 ((o.lev + 1) % 256))))
  have A3 := Lib.hid h3
  clear hb3 n3 h2 A2 h3
  by_cases he : er = 0
  · subst he
    by_cases hl : lay ≤ 0
    · have hE := HE.out
      rw [if_pos ⟨rfl, hl⟩] at hE
      have HE2 := Lib.hid hE
      clear hE HE
      go_wp2
      go_end0
      exact ⟨rfl, by rw [HE2.out]; exact A4.out⟩
    · have hE := HE.out
      rw [if_neg (fun h => hl h.2)] at hE
      have HE2 := Lib.hid hE
      clear hE HE
      go_wp2
      go_end0
      exact ⟨rfl, by rw [HE2.out]; exact A3.out⟩
  · have hE := HE.out
    rw [if_neg (fun h => he h.1)] at hE
    have HE2 := Lib.hid hE
    clear hE HE
    have he' : (er == 0) = false := by simpa using he
    go_wp2
    go_end0
    exact ⟨rfl, by rw [HE2.out]; exact A3.out⟩

/-- the payload that is sent -/
def pay (o : O) (s : ByteArray) : ByteArray :=
  if o.v = true then (if er s = 0 then ⟨((vp.tx (vp.withD (par s) o.pic (max o.lev 0))) ++ (rst s).data.toList).toArray⟩ else s) else s
theorem par_V (s : ByteArray) (h : er s = 0) : vp.V (par s) := by
  have hD : par s = vp.pD (s.data.toList, 0) := by unfold par vp.outD; exact if_pos h
  rw [hD]
  exact vp.p_V _

theorem tx_bd (d : vp.D) : 1 ≤ (vp.tx d).length ∧ (vp.tx d).length ≤ 6 := by
  rw [vp.tx_len]
  have h1 : (vp.txPic d).length ≤ 2 := by unfold vp.txPic; split; split <;> simp [wr.be_length]; simp
  have h2 : (vp.txLev d).length ≤ 1 := by unfold vp.txLev; split <;> simp [wr.be_length]
  have h3 : (vp.txLk d).length ≤ 1 := by unfold vp.txLk; split <;> simp [wr.be_length]
  split <;> omega
theorem rst_size (s : ByteArray) (h : er s = 0) : (rst s).size ≤ s.size := by
  have hl := vp.len_p _ h
  have e : (rst s).size = (vp.pS (s.data.toList, 0)).1.length := by
    unfold rst vp.outL
    rw [size_mk]
    exact congrArg List.length (if_pos h)
  have e2 : s.data.toList.length = s.size := by rw [Array.length_toList]; rfl
  simp only at hl
  omega
abbrev HeldP (w w' : World) (p pd : Nat) (pi le : Int) (d0 d1 d2 d3 d4 d5 d6 d7 d8 : Value) : Prop :=
  New w w' ∧ p < w'.heap.size ∧ pd < w'.heap.size ∧ w'.cell? ⟨p, 4, none⟩ = some (.int .i64 pi) ∧ w'.cell? ⟨p, 5, none⟩ = some (.int .i64 le) ∧ w'.cell? ⟨pd, 0, none⟩ = some d0 ∧ w'.cell? ⟨pd, 1, none⟩ = some d1 ∧ w'.cell? ⟨pd, 2, none⟩ = some d2 ∧ w'.cell? ⟨pd, 3, none⟩ = some d3 ∧ w'.cell? ⟨pd, 4, none⟩ = some d4 ∧ w'.cell? ⟨pd, 5, none⟩ = some d5 ∧ w'.cell? ⟨pd, 6, none⟩ = some d6 ∧ w'.cell? ⟨pd, 7, none⟩ = some d7 ∧ w'.cell? ⟨pd, 8, none⟩ = some d8
section
variable {w w1 w2 : World} {p pd : Nat} {pi le : Int} {d0 d1 d2 d3 d4 d5 d6 d7 d8 : Value}
theorem heldP_drew (h : HeldP w w1 p pd pi le d0 d1 d2 d3 d4 d5 d6 d7 d8) : HeldP w w1.drew p pd pi le d0 d1 d2 d3 d4 d5 d6 d7 d8 := by
  obtain ⟨hn, h⟩ := h
  exact ⟨hn.drew, h⟩
theorem heldP_new (k : New w1 w2) (h : HeldP w w1 p pd pi le d0 d1 d2 d3 d4 d5 d6 d7 d8) : HeldP w w2 p pd pi le d0 d1 d2 d3 d4 d5 d6 d7 d8 := by
  obtain ⟨hn, hl, hb, a4, a5, b0, b1, b2, b3, b4, b5, b6, b7, b8⟩ := h
  have c := fun i => k.cell (a := ⟨p, i, none⟩) hl (fun h => h)
  have d := fun i => k.cell (a := ⟨pd, i, none⟩) hb (fun h => h)
  exact ⟨hn.trans (k.mono (fun _ _ h => h.elim)), Nat.lt_of_lt_of_le hl k.size, Nat.lt_of_lt_of_le hb k.size, (c 4).trans a4, (c 5).trans a5, (d 0).trans b0, (d 1).trans b1, (d 2).trans b2, (d 3).trans b3, (d 4).trans b4, (d 5).trans b5, (d 6).trans b6, (d 7).trans b7, (d 8).trans b8⟩
end

set_option maxHeartbeats 1000000 in
theorem payload (p : Nat) (o : O) (s : ByteArray) (w : World) (h : Ot w p o) (ho : o.ok) (hs : s.size ≤ 1048576) :
    Calls Try.prog 41 #[.pointer (some ⟨p, 0, none⟩), .string s] w fun e w' => e = .returned (.string (pay o s)) ∧ New w w' := by
  obtain ⟨q0, q1, p0, p1, l0, l1, _, _, _, _, _, _⟩ := ho
  have c0 := h.c0
  have hn0 : New w w := Turns.refl _ _
  by_cases hv : o.v = true
  · rw [hv] at c0
    have HP := Lib.hid (fun w => parse_ s w (by omega))
    have HE : Hid (pay o s = if er s = 0 then ⟨((vp.tx (vp.withD (par s) o.pic (max o.lev 0))) ++ (rst s).data.toList).toArray⟩ else s) := Lib.hid (by unfold pay; rw [if_pos hv])
    have H0 := Lib.hid h
    clear h hn0
    by_cases he : er s = 0
    · have hV := vp.with_V (par s) (par_V s he) o.pic (max o.lev 0)
      rw [if_pos he] at HE
      rw [he] at HP
      have hW := fun w => vp.with_any (par s) o.pic (max o.lev 0) w
      have hT := fun w => vp.text (vp.withD (par s) o.pic (max o.lev 0)) hV w
      obtain ⟨T, hT2⟩ : ∃ T : ByteArray, T = ⟨(vp.tx (vp.withD (par s) o.pic (max o.lev 0))).toArray⟩ := ⟨_, rfl⟩
      have hcat : (⟨((vp.tx (vp.withD (par s) o.pic (max o.lev 0))) ++ (rst s).data.toList).toArray⟩ : ByteArray) = T ++ rst s := by
        rw [hT2, ← cat_mk, eta_mk]
      rw [hcat] at HE
      rw [← hT2] at hT
      have z1 : (9223372036854775807 < T.size + (rst s).size) = False := by
        have a := rst_size s he
        have b := (tx_bd (vp.withD (par s) o.pic (max o.lev 0))).2
        have c : T.size = (vp.tx (vp.withD (par s) o.pic (max o.lev 0))).length := by rw [hT2, size_mk]
        simp only [eq_iff_iff, iff_false]
        omega
      have HW := Lib.hid hW
      have HT := Lib.hid hT
      clear hW hT hcat hT2 hV he
      generalize vp.withD (par s) o.pic (max o.lev 0) = d2 at *
      generalize par s = d at *
      generalize rst s = rs at *
      obtain ⟨mx, hmx⟩ : ∃ mx, max o.lev 0 = mx := ⟨_, rfl⟩
      rw [hmx] at HW
      generalize hle : o.lev = le at *
      generalize hpi : o.pic = pi at *
      have HLP := Lib.hid (And.intro hle hpi)
      clear hle hpi
      obtain ⟨nr, st, part, pic, wide, lev, lay, sync, key⟩ := d
      simp only [vp.cells] at HP HW HT
      have fin : (if le < 0 then (0 : Int) else le) = mx := by split <;> omega
      clear hmx
      go_enter Try.func41, Try.ntmps41
      go_wp2_with fail
      refine (HP.out _).mono ?_
      rintro e w1 ⟨rfl, n1⟩
      have O1 := H0.out.turns n1 (fun h => h)
      clear HP c0
      go_upto_region 6 with fail
      have n3 : New w1 (w1.alloc (.cells #[.bool nr, .bool st, .int .i64 part, .int .i64 pic, .bool wide, .int .i64 lev, .int .i64 lay, .bool sync, .int .i64 key] vp.DT)) := (Turns.refl _ _).alloc _
      have hb3 : Blk (w1.alloc (.cells #[.bool nr, .bool st, .int .i64 part, .int .i64 pic, .bool wide, .int .i64 lev, .int .i64 lay, .bool sync, .int .i64 key] vp.DT)) w1.heap.size #[.bool nr, .bool st, .int .i64 part, .int .i64 pic, .bool wide, .int .i64 lev, .int .i64 lay, .bool sync, .int .i64 key] vp.DT := Blk.new _ _ _
      have O3 := O1.turns n3 (fun h => h)
      have N3 : Hid (New w (w1.alloc (.cells #[.bool nr, .bool st, .int .i64 part, .int .i64 pic, .bool wide, .int .i64 lev, .int .i64 lay, .bool sync, .int .i64 key] vp.DT))) := Lib.hid (n1.alloc _)
      generalize w1.alloc (.cells #[.bool nr, .bool st, .int .i64 part, .int .i64 pic, .bool wide, .int .i64 lev, .int .i64 lay, .bool sync, .int .i64 key] vp.DT) = w3 at *
      generalize w1.heap.size = pd at *
      have k4 := O3.c4
      have k5 := O3.c5
      rw [HLP.out.1] at k5
      rw [HLP.out.2] at k4
      have hh : HeldP w3 w3 p pd pi le (.bool nr) (.bool st) (.int .i64 part) (.int .i64 pic) (.bool wide) (.int .i64 lev) (.int .i64 lay) (.bool sync) (.int .i64 key) :=
        ⟨Turns.refl _ _, O3.lt, hb3.lt, k4, k5, hb3.cell 0, hb3.cell 1, hb3.cell 2, hb3.cell 3, hb3.cell 4, hb3.cell 5, hb3.cell 6, hb3.cell 7, hb3.cell 8⟩
      have HH := Lib.hid hh
      clear O1 O3 n1 n3 hb3 k4 k5 H0
      go_region_held3 (fun w' => New w3 w' ∧ p < w'.heap.size ∧ pd < w'.heap.size ∧ w'.cell? ⟨p, 4, none⟩ = some (.int .i64 pi) ∧ w'.cell? ⟨p, 5, none⟩ = some (.int .i64 le) ∧ w'.cell? ⟨pd, 0, none⟩ = some (.bool nr) ∧ w'.cell? ⟨pd, 1, none⟩ = some (.bool st) ∧ w'.cell? ⟨pd, 2, none⟩ = some (.int .i64 part) ∧ w'.cell? ⟨pd, 3, none⟩ = some (.int .i64 pic) ∧ w'.cell? ⟨pd, 4, none⟩ = some (.bool wide) ∧ w'.cell? ⟨pd, 5, none⟩ = some (.int .i64 lev) ∧ w'.cell? ⟨pd, 6, none⟩ = some (.int .i64 lay) ∧ w'.cell? ⟨pd, 7, none⟩ = some (.bool sync) ∧ w'.cell? ⟨pd, 8, none⟩ = some (.int .i64 key))
        (first
          | (with_reducible assumption)
          | ((with_reducible refine heldP_drew ?_); with_reducible assumption)
          | ((with_reducible apply heldP_new hnq); with_reducible assumption))
        (first
          | (go_at_call 50; (with_reducible refine Calls.mono (HW.out _) ?_); rintro en wq ⟨rfl, hnq⟩)
          | (go_at_call 51; (with_reducible refine Calls.mono (HT.out _) ?_); rintro en wq ⟨rfl, hnq⟩))
      rename_i hHl
      have hfin := N3.out.trans (hHl.1.mono (fun _ _ h => h.elim))
      go_wp2
      go_ret
      exact ⟨by rw [HE.out]; rfl, hfin⟩
    · rw [if_neg he] at HE
      have he' : (er s == 0) = false := by simpa using he
      have he2 : (er s != 0) = true := by simpa using he
      generalize par s = d at *
      generalize rst s = rs at *
      generalize er s = ee at *
      obtain ⟨nr, st, part, pic, wide, lev, lay, sync, key⟩ := d
      simp only [vp.cells] at HP
      go_enter Try.func41, Try.ntmps41
      go_wp2_with fail
      refine (HP.out _).mono ?_
      rintro e w1 ⟨rfl, n1⟩
      go_wp2
      go_ret
      exact ⟨by rw [HE.out]; rfl, n1.alloc _⟩
  · have hv' : o.v = false := by simpa using hv
    rw [hv'] at c0
    have HE : Hid (pay o s = s) := Lib.hid (by unfold pay; rw [if_neg hv])
    go_enter Try.func41, Try.ntmps41
    go_wp2
    go_ret
    exact ⟨by rw [HE.out]; rfl, hn0⟩
end Go.Proofs.Ytijpgkkhjjpjoaa.rew
