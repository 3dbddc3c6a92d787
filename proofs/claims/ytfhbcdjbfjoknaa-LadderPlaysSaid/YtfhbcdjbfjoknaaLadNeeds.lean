/-
  'needs' of layer 23's laws.
-/
import Derived.Test.YtfhbcdjbfjoknaaLadNew2
import Derived.Test.YtfhbcdjbfjoknaaArgs
import Derived.Test.YtfhbcdjbfjoknaaMask
namespace Go.Proofs.Ytfhbcdjbfjoknaa.lad
open Go.RowKit mem
open ints (IE IT ST infoI)
set_option linter.unusedVariables false

theorem asc_push {N : List Int} {y : Int} (h : Asc N) (hy : ∀ x ∈ N, x ≤ y) : Asc (N ++ [y]) := by
  intro k h1 h2 h3
  simp at h2
  by_cases hk : k < N.length
  · have := h k h1 hk h3
    have e1 : (N ++ [y]).getD k 0 = N.getD k 0 := by simp [List.getD, List.getElem?_append_left hk]
    have e2 : (N ++ [y]).getD (k - 1) 0 = N.getD (k - 1) 0 := by simp [List.getD, List.getElem?_append_left (show k - 1 < N.length by omega)]
    rw [e1, e2]; exact this
  · have e : k = N.length := by omega
    subst e
    have e1 : (N ++ [y]).getD N.length 0 = y := by simp [List.getD]
    have e2 : (N ++ [y]).getD (N.length - 1) 0 = N.getD (N.length - 1) 0 := by simp [List.getD, List.getElem?_append_left (show N.length - 1 < N.length by omega)]
    rw [e1, e2]
    have hlt : N.length - 1 < N.length := by omega
    have : N.getD (N.length - 1) 0 = N[N.length - 1] := by simp [hlt]
    rw [this]
    exact hy _ (List.getElem_mem hlt)
theorem vw_of_gr {w wr : World} {v : Value} {N : List Int} (h : Gr IE IT w wr v N) : ∃ ao c, v = .slice ao N.length c ∧ Vw wr ao N := by
  by_cases hN : N = []
  · obtain ⟨ao, c, hv, _⟩ := h.own.form
    exact ⟨ao, c, hv, .inl hN⟩
  · obtain ⟨g, o, c, hv, _, _, hg, hc⟩ := ints.Sub.at_ (h.own.sub 0 (fun _ _ => Nat.zero_le _)) hN
    exact ⟨_, c, hv, .inr ⟨g, o, rfl, hg, hc⟩⟩

set_option maxRecDepth 10000 in
set_option maxHeartbeats 1000000 in
theorem needs (a : Option Addr) (n c : Nat) (z : Nat → Int) (w0 w : World) (h : args.IntRow .i64 w0 a n c z) (hn0 : New w0 w) :
    Calls Try.prog 10 #[.slice a n c] w fun e w' => ∃ ao cc N, e = .returned (.slice ao N.length cc) ∧ Vw w' ao N ∧ Rise N ∧ (∀ x ∈ N, x ≤ 200) ∧ New w w' := by
  obtain ⟨hn, hwf, hcell⟩ := h
  unfold maxLen at hn
  have HC := Lib.hid hcell
  have HN0 := Lib.hid hn0
  clear hwf hcell hn0
  go_enter Try.func10, Try.ntmps10
  go_wp2_with fail
  have HG0 : Hid (Gr IE IT w (w.alloc (.cells #[] IT)) (.slice (some ⟨w.heap.size, 0, none⟩) 0 0) []) := Lib.hid ⟨ints.Owns.made0 (Blk.new _ _ _), fun g hg => by
    have e : w.heap.size = g := by simpa [Value.ownBlock] using hg
    omega, (Turns.refl _ _).alloc _⟩
  go_loopw [3, 4, 5] (fun ou la i wr => ∃ (k : Nat) (v : Value) (N : List Int) (last : Int), k ≤ n ∧ k ≤ 3 ∧ ou = v ∧ la = .int .i64 last ∧ i = .int .i64 k ∧ Gr IE IT w wr v N ∧ N.length = k ∧ Asc N ∧ (∀ x ∈ N, 0 ≤ x ∧ x ≤ last) ∧ 0 ≤ last ∧ last ≤ 63 * k) (fun _ _ i _ => n - (intOf i).toNat)
  case atStart => exact ⟨0, _, [], 0, by omega, by omega, rfl, rfl, rfl, HG0.out, rfl, fun k h1 h2 => by simp at h2, fun x hx => by simp at hx, by omega, by omega⟩
  case round =>
    obtain ⟨k, v, N, last, hk, hk3, rfl, rfl, rfl, hgr, hlen, hasc, hbd, hl0, hl1⟩ := hrel
    clear HG0
    have HG := Lib.hid hgr
    have HA := Lib.hid (And.intro hasc hbd)
    clear hgr hasc hbd
    obtain ⟨ao, cc, hv, hvw⟩ := vw_of_gr HG.out
    have HVW := Lib.hid hvw
    clear hvw
    have HLEN := Lib.hid hlen
    rw [hlen] at hv
    clear hlen
    subst hv
    by_cases hgo : k < n ∧ k < 3
    · obtain ⟨hlt, hlt3⟩ := hgo
      obtain ⟨b, off, rfl, hb, hc⟩ := HC.out.resolve_left (by omega)
      have hz := ((HN0.out.trans (HG.out.n.mono (fun _ _ h => h.elim))).cell (a := ⟨b, off + k, none⟩) hb (fun h => h)).trans (hc k hlt)
      have mz := mask.mask6 (z k)
      have y0 : 0 ≤ z k % 64 := by omega
      have y1 : z k % 64 ≤ 63 := by omega
      clear hc hb
      generalize z k % 64 = d at *
      generalize z k = zn at *
      have HO : Hid (Owns IE IT (wr.alloc (.cells #[.int .i64 (last + d)] IT)) (.slice ao k cc) N) := Lib.hid (HG.out.own.turns ((Turns.refl (fun _ => False) _).alloc _) (fun _ _ h => h))
      have HS : Hid (Sub IE 0 (wr.alloc (.cells #[.int .i64 (last + d)] IT)) (.slice (some ⟨wr.heap.size, 0, none⟩) 1 1) [last + d]) := Lib.hid (ints.Sub.one (Blk.new _ _ _))
      have HL : Hid (N.length + ([last + d] : List Int).length ≤ 1048576) := Lib.hid (by have := HLEN.out; simp; omega)
      go_wp2_with (at_builtin; refine wpList_append_sub (E := IE) Try.underlying22 infoI rfl (by decide) (by decide) rfl _ _ rfl _ N [last + d] rfl HO.out _ rfl 0 HS.out HL.out ?_)
      intro v' w1 hown hgrow hat
      have G := Lib.hid (HG.out.push hown hgrow (by rw [World.size_alloc]; exact hat))
      have hlen : (N ++ [last + d]).length = k + 1 := by have := HLEN.out; simp; omega
      have HLEN2 := Lib.hid hlen
      obtain ⟨a8, c8, hv8, _⟩ := G.out.own.form
      rw [hlen] at hv8
      subst hv8
      clear hown hgrow hat HO HS HL hlen hz
      go_wp2_with fail
      go_roundw
      case rel => exact ⟨k + 1, _, _, last + d, by omega, by omega, rfl, rfl, by go_num, G.out, HLEN2.out, asc_push HA.out.1 (fun x hx => by have := HA.out.2 x hx; omega), fun x hx => by
        rw [List.mem_append, List.mem_singleton] at hx
        rcases hx with hx | rfl
        · have := HA.out.2 x hx; omega
        · omega, by omega, by omega⟩
      case measure => simp [intOf]; omega
    · have HNN := Lib.hid HG.out.n
      by_cases h0 : k = 0
      · subst h0
        have hcase : ¬ (0 < n) := fun h => hgo ⟨h, by omega⟩
        clear hgo
        have d1 : decide ((0 : Int) < (n : Int)) = false := decide_eq_false (by omega)
        go_wp2
        go_ret
        refine ⟨some ⟨wr.heap.size, 0, none⟩, 1, [5], rfl, .inr ⟨wr.heap.size, 0, rfl, by simp, fun k hk => ?_⟩, ⟨by simp, by simp, fun k h1 h2 h3 => by simp at h2; omega, by simp, by simp⟩, fun x hx => by simp at hx; omega, HNN.out.alloc _⟩
        have : k = 0 := by simp at hk; omega
        subst this
        exact (Blk.new wr #[.int .i64 5] IT).cell 0
      · have hk0 : ((k : Int) == 0) = false := by simp; omega
        have HR : Hid (Rise N) := Lib.hid (by
          have hl := HLEN.out
          have h1 : 0 < N.length := by omega
          have e1 : N.getD 0 0 = N[0] := by simp [h1]
          have h2 : N.length - 1 < N.length := by omega
          have e2 : N.getD (N.length - 1) 0 = N[N.length - 1] := by simp [h2]
          refine ⟨by omega, by omega, HA.out.1, ?_, ?_⟩
          · rw [e1]; exact (HA.out.2 _ (List.getElem_mem h1)).1
          · rw [e2]; have := (HA.out.2 _ (List.getElem_mem h2)).2; omega)
        have HBD : Hid (∀ x ∈ N, x ≤ 200) := Lib.hid (fun x hx => by have := HA.out.2 x hx; omega)
        by_cases hlt : k < n
        · have hlt3 : ¬ k < 3 := fun h => hgo ⟨hlt, h⟩
          clear hgo
          have d1 : decide ((k : Int) < (n : Int)) = true := decide_eq_true (by omega)
          have d2 : decide ((k : Int) < 3) = false := decide_eq_false (by omega)
          go_wp2
          go_ret
          exact ⟨ao, cc, N, by rw [HLEN.out]; rfl, HVW.out, HR.out, HBD.out, HNN.out⟩
        · clear hgo
          have d1 : decide ((k : Int) < (n : Int)) = false := decide_eq_false (by omega)
          go_wp2
          go_ret
          exact ⟨ao, cc, N, by rw [HLEN.out]; rfl, HVW.out, HR.out, HBD.out, HNN.out⟩
end Go.Proofs.Ytfhbcdjbfjoknaa.lad
