/-
  queue.Queue in memory: Expire.
-/
import Derived.Test.YtcaloeolmoodbaaQueMore
namespace Go.Proofs.Ytcaloeolmoodbaa.que
open Go.RowKit mem
set_option linter.unusedVariables false

/-- the length of a slice -/
def slen : Value → Nat
  | .slice _ n _ => n
  | _ => 0
def qk (q : Q) (k : Nat) : Q := ⟨q.frames, q.most, q.L.drop k, brk q.broken q.L k⟩
theorem qk_zero (q : Q) : qk q 0 = q := by unfold qk; rw [brk_zero, List.drop_zero]
theorem qk_drop (q : Q) (k : Nat) (hk : k < q.L.length) : dropQ (qk q k) = qk q (k + dropN (q.L.drop k)) := by
  have h := brk_step q.broken q.L k (dropN (q.L.drop k)) hk (dropN_pos _)
  unfold dropQ qk
  simp only
  rw [h, List.drop_drop]
theorem take_more (L : List It) (k d : Nat) : L.take k ++ (L.drop k).take d = L.take (k + d) := (List.take_add).symm
theorem Gone.zero {w : World} {p : Nat} {pv : Value} {q : Q} (h : Qs w p pv q) : Gone w w p pv (qk q 0) (.slice none 0 0) (q.L.take 0) :=
  ⟨⟨Owns.nil _ _, fun g hg => by simp [Value.ownBlock] at hg⟩, ⟨pv, by rw [qk_zero]; exact h, rfl⟩, Turns.refl _ _⟩
theorem Gone.apart {w w1 : World} {p : Nat} {pv v : Value} {q : Q} {D : List It} (h : Gone w w1 p pv q v D) (hp : p < w.heap.size) (hpv : ∀ g, pv.ownBlock = some g → g < w.heap.size) : ∀ g, v.ownBlock = some g → g ≠ p ∧ pv.ownBlock ≠ some g := fun g hg =>
  ⟨fun e => by have := h.fr.vb g hg; omega, fun e => by have := h.fr.vb g hg; have := hpv g e; omega⟩
theorem Gone.still {w w1 w2 : World} {p : Nat} {pv pv1 v u : Value} {q q2 : Q} {D D2 : List It} (h : Gone w w1 p pv q v D) (e1 : pv1.ownBlock = pv.ownBlock) (h2 : Gone w1 w2 p pv1 q2 u D2) (hp : p < w.heap.size) (hpv : ∀ g, pv.ownBlock = some g → g < w.heap.size) : Owns IE PT w2 v D := by
  have ha := h.apart hp hpv
  refine h.fr.own.turns h2.turns (fun g hg => ?_)
  rintro (e | e)
  · exact (ha g hg).1 e
  · exact (ha g hg).2 (e1 ▸ e)
theorem Gone.grow {w w1 w2 w3 : World} {p : Nat} {pv pv1 v u v' : Value} {q q2 : Q} {D D2 : List It} (h : Gone w w1 p pv q v D) (e1 : pv1.ownBlock = pv.ownBlock) (h2 : Gone w1 w2 p pv1 q2 u D2) (hp : p < w.heap.size) (hpv : ∀ g, pv.ownBlock = some g → g < w.heap.size)
    (ho : Owns IE PT w3 v' (D ++ D2)) (hg : w2.grownBy w3 v.ownBlock) (ha : v'.ownBlock = v.ownBlock ∨ v'.ownBlock = some w2.heap.size) : Gone w w3 p pv q2 v' (D ++ D2) := by
  have hap := h.apart hp hpv
  have tg := Turns.of_grown hg
  have t2 : Turns (Foot p pv) w w2 := h.turns.trans (h2.turns.mono (fun k _ hk => .inl (by rcases hk with hk | hk; exact .inl hk; exact .inr (e1 ▸ hk))))
  obtain ⟨pv2, hq2, he2⟩ := h2.qs
  refine ⟨⟨ho, fun g hg' => ?_⟩, ⟨pv2, hq2.turns tg (fun e => (hap p e.symm).1 rfl) (fun g hg' e => (hap g e.symm).2 (by rw [← e1, ← he2]; exact hg')), he2.trans e1⟩, t2.trans (tg.mono (fun k _ hk => .inr (h.fr.vb k hk.symm)))⟩
  rcases ha with e | e
  · exact h.fr.vb g (e ▸ hg')
  · rw [e] at hg'; injection hg' with hg'; have := t2.size; omega

set_option maxHeartbeats 1000000 in
theorem expire (p : Nat) (pv : Value) (q : Q) (now age : Int) (w : World) (h : Qs w p pv q) (n0 : 0 ≤ now) (n1 : now ≤ 2199023255552) (ht : ∀ x ∈ q.L, 0 ≤ x.tick ∧ x.tick ≤ 2199023255552) :
    Calls Try.prog 48 #[.pointer (some ⟨p, 0, none⟩), .int .i64 now, .int .i64 age] w fun e w' => ∃ v, e = .returned v ∧ Gone w w' p pv (expQ q now age) v (expD q now age) := by
  have hsm := h.small
  have HG0 := Lib.hid (Gone.zero h)
  have HP := Lib.hid h.lt
  have HPV := Lib.hid h.vlt
  have HT := Lib.hid ht
  have h00 : late now age [] = false := rfl
  have H00 := Lib.hid h00
  clear h ht h00
  go_enter Try.func48, Try.ntmps48
  go_wp2_with fail
  go_loopw [7] (fun v wr => ∃ k : Nat, k ≤ q.L.length ∧ k + sh (late now age) (q.L.drop k) = sh (late now age) q.L ∧ (∃ ao c, v = .slice ao k c) ∧ Gone w wr p pv (qk q k) v (q.L.take k)) (fun v _ => q.L.length - slen v)
  case atStart => exact ⟨0, Nat.zero_le _, by rw [List.drop_zero, Nat.zero_add], ⟨none, 0, rfl⟩, HG0.out⟩
  case round =>
    obtain ⟨k, hk, hsh, ⟨ao7, c7, rfl⟩, hg⟩ := hrel
    obtain ⟨pv1, hq1, he1⟩ := hg.qs
    obtain ⟨ao, c, hpv1, hc, hrd, _⟩ := hq1.own.form
    have hlen : (qk q k).L.length = q.L.length - k := List.length_drop
    rw [hlen] at hpv1 hc
    have c2 := hq1.blk.cell 2
    rw [hpv1] at c2
    have HG := Lib.hid hg
    have HSH := Lib.hid hsh
    have HQ1 := Lib.hid (And.intro hq1 he1)
    have HPV1 := Lib.hid hpv1
    have hlm : q.L.length ≤ maxLen := by unfold maxLen; omega
    by_cases hlt : k < q.L.length
    · obtain ⟨y, hy⟩ : ∃ y, q.L[k]? = some y := ⟨_, List.getElem?_eq_getElem hlt⟩
      have hy0 : (qk q k).L[0]? = some y := by show (q.L.drop k)[0]? = _; rw [List.getElem?_drop]; exact hy
      obtain ⟨r, hr⟩ : ∃ r, q.L.drop k = y :: r := by
        obtain ⟨hlt', e⟩ := List.getElem?_eq_some_iff.1 hy
        exact ⟨_, by rw [List.drop_eq_getElem_cons hlt', e]⟩
      have hty := HT.out y (List.mem_of_getElem? hy)
      rcases hrd with h0 | ⟨g, hg2, hgl, hcell⟩
      · rw [show (qk q k).L = q.L.drop k from rfl, hr] at h0; cases h0
      subst hg2
      have r2 : wr.cell? ⟨g, 2, none⟩ = some (.int .i64 y.tick) := hcell 0 y hy0 2 _ rfl
      obtain ⟨t0, t1⟩ := hty
      have hlate : Hid (late now age (q.L.drop k) = decide (age ≤ now - y.tick)) := Lib.hid (by rw [hr]; rfl)
      have hne : Hid (q.L.drop k ≠ []) := Lib.hid (by rw [hr]; simp)
      generalize y.tick = ty at *
      have hw : IntKind.i64.wrap (now - ty) = now - ty := IntWalk.i64_in _ (by omega)
      have hd : decide ((0 : Int) < ((q.L.length - k : Nat) : Int)) = true := decide_eq_true (by omega)
      clear hg hsh hq1 he1 hpv1 hcell hy hy0 hr
      by_cases hl : age ≤ now - ty
      · have hl2 : decide (age ≤ now - ty) = true := decide_eq_true hl
        have HL : Hid (late now age (q.L.drop k) = true) := Lib.hid (by rw [hlate.out]; exact hl2)
        have HGO := Lib.hid (sh_go (late now age) H00.out (q.L.drop k) HL.out)
        clear hlate
        go_wp2_with fail
        refine (drop p pv1 (qk q k) wr HQ1.out.1 hne.out).mono ?_
        rintro e w2 ⟨u, rfl, hg2⟩
        have hdl := dropN_le (q.L.drop k) hne.out
        have hd1 := dropN_pos (q.L.drop k)
        rw [List.length_drop] at hdl
        have HG2 : Hid (Gone wr w2 p pv1 (qk q (k + dropN (q.L.drop k))) u ((q.L.drop k).take (dropN (q.L.drop k)))) := Lib.hid (by rw [← qk_drop q k hlt]; exact hg2)
        have HA1 := Lib.hid (HG.out.still HQ1.out.2 hg2 HP.out HPV.out)
        have HA2 := Lib.hid (HG2.out.fr.own.sub 0 (fun _ _ => Nat.zero_le _))
        have hll : Hid ((q.L.take k).length + ((q.L.drop k).take (dropN (q.L.drop k))).length ≤ 1048576) := Lib.hid (by simp only [List.length_take, List.length_drop]; omega)
        clear hg2 c2 r2
        go_wp2_with (at_builtin; refine wpList_append_sub (E := IE) Try.underlying103 infoP rfl (by decide) (by decide) rfl _ _ rfl _ (q.L.take k) _ rfl HA1.out _ rfl 0 HA2.out hll.out ?_; intro v3 w3 hown3 hgrow3 hat3)
        have hG3 := HG.out.grow HQ1.out.2 HG2.out HP.out HPV.out hown3 hgrow3 hat3
        rw [take_more] at hG3 hown3
        obtain ⟨a3, c3, hv3, _⟩ := hown3.form
        rw [show (q.L.take (k + dropN (q.L.drop k))).length = k + dropN (q.L.drop k) by rw [List.length_take]; omega] at hv3
        have HE := Lib.hid hG3
        have HGO2 := HGO.out.2
        rw [List.drop_drop] at HGO2
        have HS2 : Hid (k + dropN (q.L.drop k) + sh (late now age) (q.L.drop (k + dropN (q.L.drop k))) = sh (late now age) q.L) := Lib.hid (by have := HSH.out; omega)
        clear hown3 hgrow3 hat3 hG3 HGO2 HA1 HA2 hll HGO HSH
        generalize dropN (q.L.drop k) = d at *
        subst hv3
        go_roundw
        case rel => exact ⟨k + d, by omega, HS2.out, ⟨_, _, rfl⟩, HE.out⟩
        case measure => show q.L.length - (k + d) < q.L.length - k; omega
      · have hl2 : decide (age ≤ now - ty) = false := decide_eq_false hl
        have HL : Hid (late now age (q.L.drop k) = false) := Lib.hid (by rw [hlate.out]; exact hl2)
        have HE : Hid (Gone w wr p pv (expQ q now age) (.slice ao7 k c7) (expD q now age)) := Lib.hid (by
          have e : expK q now age = k := by have := HSH.out; rw [sh_end _ _ HL.out] at this; unfold expK; omega
          unfold expQ expD
          rw [e]
          exact HG.out)
        clear hlate HG HL
        go_wp2
        go_ret
        exact ⟨_, rfl, HE.out⟩
    · obtain rfl : k = q.L.length := by omega
      have HE : Hid (Gone w wr p pv (expQ q now age) (.slice ao7 q.L.length c7) (expD q now age)) := Lib.hid (by
        have e : expK q now age = q.L.length := by
          have := HSH.out
          rw [List.drop_length, sh_end _ _ H00.out] at this
          unfold expK; omega
        unfold expQ expD
        rw [e]
        exact HG.out)
      clear HG hg hq1 hrd hpv1
      have hz : q.L.length - q.L.length = 0 := Nat.sub_self _
      rw [hz] at c2
      go_wp2
      go_ret
      exact ⟨_, rfl, HE.out⟩
end Go.Proofs.Ytcaloeolmoodbaa.que
