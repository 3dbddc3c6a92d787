/-
  rtp.Parse: what it reads.
-/
import Derived.Test.YtcppibjllaablaaGreatRpPure
import Derived.Test.YtcppibjllaablaaGreatVpRead
import Derived.Outline
namespace Go.Proofs.YtcppibjllaablaaGreat.rp
open Go.RowKit mem rd oref sq
set_option linter.unusedVariables false

abbrev PT : TypeId := 75
abbrev U4 : TypeId := 72

section
variable {w : World} {p : Nat} {d : P} {v : Value} {t : TypeId} (h : Blk w p (pc d v) t)
include h
theorem pc5 : w.cell? ⟨p, 5, none⟩ = some v := h.cell 5
theorem pc6 : w.cell? ⟨p, 6, none⟩ = some (.bool d.ext) := h.cell 6
theorem pc7 : w.cell? ⟨p, 7, none⟩ = some (.int .u16 d.prof) := h.cell 7
theorem pc8 : w.cell? ⟨p, 8, none⟩ = some (.string d.data) := h.cell 8
theorem pc9 : w.cell? ⟨p, 9, none⟩ = some (.string d.pay) := h.cell 9
theorem pc10 : w.cell? ⟨p, 10, none⟩ = some (.int .i64 d.pad) := h.cell 10
theorem ps5 (x : Value) : Blk (w.setCell ⟨p, 5, none⟩ x) p (pc d x) t := h.set 5 _
theorem ps6 (x : Bool) : Blk (w.setCell ⟨p, 6, none⟩ (.bool x)) p (pc { d with ext := x } v) t := h.set 6 _
theorem ps7 (x : Int) : Blk (w.setCell ⟨p, 7, none⟩ (.int .u16 x)) p (pc { d with prof := x } v) t := h.set 7 _
theorem ps8 (x : ByteArray) : Blk (w.setCell ⟨p, 8, none⟩ (.string x)) p (pc { d with data := x } v) t := h.set 8 _
theorem ps9 (x : ByteArray) : Blk (w.setCell ⟨p, 9, none⟩ (.string x)) p (pc { d with pay := x } v) t := h.set 9 _
theorem ps10 (x : Int) : Blk (w.setCell ⟨p, 10, none⟩ (.int .i64 x)) p (pc { d with pad := x } v) t := h.set 10 _
end

/-- a packet at pd, a reader at pr; nothing else has turned -/
def Both (w w' : World) (pd pr : Nat) (d : P) (v : Value) (s : St) : Prop := Blk w' pd (pc d v) PT ∧ Rs w' pr s ∧ Turns (fun k => k = pd ∨ k = pr) w w'

set_option maxHeartbeats 1000000 in
theorem takeExt (pd pr : Nat) (d : P) (v : Value) (s : St) (w : World) (hd : Blk w pd (pc d v) PT) (hr : Rs w pr s) (hne : pd ≠ pr) :
    Calls Tryz.prog 46 #[.pointer (some ⟨pd, 0, none⟩), .pointer (some ⟨pr, 0, none⟩)] w fun en w' => en = .returned (.tuple #[]) ∧ Both w w' pd pr (exP d s) v (exS s) := by
  have HU := Lib.hid (fun st w h => u16_st pr st w h)
  have HBy := Lib.hid (fun st n w h => bytes_st pr st n w h)
  have hb2 := vn_bd2 (nx 2 s)
  have hb1 := vn_bd2 s
  have HP : Hid (exP d s = { d with ext := true, prof := vn 2 s, data := lst (bn (exN s) (nx 2 (nx 2 s))) }) := Lib.hid rfl
  have HS : Hid (exS s = nx (exN s) (nx 2 (nx 2 s))) := Lib.hid rfl
  have hN : 4 * vn 2 (nx 2 s) = (exN s : Int) := by unfold exN; omega
  have hlt := hr.lt
  have c6 := pc6 hd
  have f6 := hd.free 6
  have hd1 := ps6 hd true
  have hr1 : Rs (w.setCell ⟨pd, 6, none⟩ (.bool true)) pr s := hr.turns ((Turns.refl (· = pd) w).setCell (.inl rfl) _) (fun h => hne h.symm)
  have ht1 : Turns (fun k => k = pd ∨ k = pr) w (w.setCell ⟨pd, 6, none⟩ (.bool true)) := (Turns.refl _ w).setCell (.inl (.inl rfl)) _
  have H1 := Lib.hid (And.intro hd1 (And.intro hr1 ht1))
  clear hd1 hr1 ht1 hd hr
  generalize exN s = n at *
  go_enter Tryz.func46, Tryz.ntmps46
  go_wp2_with fail
  generalize w.setCell ⟨pd, 6, none⟩ (.bool true) = w1 at *
  refine (HU.out s w1 H1.out.2.1).mono ?_
  rintro e w2 ⟨rfl, hr2, ht2⟩
  have hd2 := ht2.blk H1.out.1 hne
  have ht2' := H1.out.2.2.trans (ht2.mono (fun _ _ h => .inl (.inr h)))
  have c7 := pc7 hd2
  have f7 := hd2.free 7
  have hd3 := ps7 hd2 (vn 2 s)
  have hr3 : Rs (w2.setCell ⟨pd, 7, none⟩ (.int .u16 (vn 2 s))) pr (nx 2 s) := hr2.turns ((Turns.refl (· = pd) w2).setCell (.inl rfl) _) (fun h => hne h.symm)
  have ht3 : Turns (fun k => k = pd ∨ k = pr) w (w2.setCell ⟨pd, 7, none⟩ (.int .u16 (vn 2 s))) := ht2'.setCell (.inl (.inl rfl)) _
  have H3 := Lib.hid (And.intro hd3 (And.intro hr3 ht3))
  clear hd2 hr2 ht2 ht2' hd3 hr3 ht3 H1 c6 f6
  go_wp2_with fail
  generalize w2.setCell ⟨pd, 7, none⟩ (.int .u16 (vn 2 s)) = w3 at *
  refine (HU.out (nx 2 s) w3 H3.out.2.1).mono ?_
  rintro e w4 ⟨rfl, hr4, ht4⟩
  have hd4 := ht4.blk H3.out.1 hne
  have ht4' := H3.out.2.2.trans (ht4.mono (fun _ _ h => .inl (.inr h)))
  have H4 := Lib.hid (And.intro hd4 (And.intro hr4 ht4'))
  clear hd4 hr4 ht4 ht4' H3 c7 f7
  go_wp2_with fail
  refine (HBy.out (nx 2 (nx 2 s)) n w4 H4.out.2.1).mono ?_
  rintro e w5 ⟨rfl, hr5, ht5⟩
  have hd5 := ht5.blk H4.out.1 hne
  have c8 := pc8 hd5
  have f8 := hd5.free 8
  have hd6 := ps8 hd5 (lst (bn n (nx 2 (nx 2 s))))
  have hr6 := hr5.turns ((Turns.refl (· = pd) w5).setCell (p := ⟨pd, 8, none⟩) (.inl rfl) (.string (lst (bn n (nx 2 (nx 2 s)))))) (fun h => hne h.symm)
  have ht6 := (H4.out.2.2.trans (ht5.mono (fun _ _ h => .inl (.inr h)))).setCell (p := ⟨pd, 8, none⟩) (.inl (.inl rfl)) (.string (lst (bn n (nx 2 (nx 2 s)))))
  have H6 := Lib.hid (And.intro hd6 (And.intro hr6 ht6))
  clear hd5 hr5 ht5 hd6 hr6 ht6 H4
  go_wp2
  go_end0
  refine ⟨rfl, ?_⟩
  rw [HP.out, HS.out]
  exact H6.out

theorem isEmpty_nil {s : ByteArray} (h : s.data.toList = []) : s.toList.isEmpty = true := by rw [toList_eq, h]; rfl
theorem isEmpty_cons {s : ByteArray} (h : s.data.toList ≠ []) : s.toList.isEmpty = false := by
  rw [toList_eq]
  cases h2 : s.data.toList with
  | nil => exact absurd h2 h
  | cons a b => rfl

theorem last_bt (l : List UInt8) (h : l ≠ []) : bt ⟨l.toArray⟩ (l.length - 1) = lastB l := by
  unfold bt lastB
  have hl : 0 < l.length := List.length_pos_iff.2 h
  rw [dif_pos (show l.length - 1 < (⟨l.toArray⟩ : ByteArray).size by show l.length - 1 < l.length; omega)]
  rw [List.getLast?_eq_getElem?, List.getElem?_eq_getElem (by omega)]
  rfl

set_option maxHeartbeats 1000000 in
theorem padding (l : List UInt8) (hl : l.length ≤ 4611686018427387904) (w : World) :
    Calls Tryz.prog 84 #[.string (lst l)] w fun en w' => en = .returned (.tuple #[.int .i64 (pdN l), .int .i64 (pdE l)]) ∧ w = w' := by
  by_cases h0 : l = []
  · subst h0
    have he : (lst []).toList.isEmpty = true := isEmpty_nil rfl
    go_enter Tryz.func84, Tryz.ntmps84
    go_wp2
    go_ret2
    exact ⟨rfl, rfl⟩
  · have hlen : 0 < l.length := List.length_pos_iff.2 h0
    obtain ⟨k, hk⟩ : ∃ k : Nat, k + 1 = l.length := ⟨l.length - 1, by omega⟩
    obtain ⟨s, hs, hsz⟩ : ∃ s : ByteArray, s = lst l ∧ s.size = k + 1 := ⟨_, rfl, (size_mk l).trans hk.symm⟩
    have he : s.toList.isEmpty = false := isEmpty_cons (by rw [hs]; exact h0)
    have hlt : k < s.size := by omega
    have hkb : k ≤ 4611686018427387904 := by omega
    have hbt := bt_is s k hlt
    have hlb : bt s k = lastB l := by rw [hs, show k = l.length - 1 by omega]; exact last_bt l h0
    have HPN : Hid (pdN l = if l = [] then 0 else if lastB l = 0 then 0 else if (l.length : Int) < lastB l then 0 else lastB l) := Lib.hid rfl
    have HPE : Hid (pdE l = if l = [] then 1 else if lastB l = 0 then 2 else if (l.length : Int) < lastB l then 1 else 0) := Lib.hid rfl
    rw [if_neg h0, ← hk] at HPN HPE
    rw [← hs]
    rw [hlb] at hbt
    have hb : 0 ≤ lastB l ∧ lastB l ≤ 255 := by rw [← hlb]; exact bt_bd _ _
    clear hs hlb h0 hk
    generalize lastB l = x at *
    have hk2 : (s.size : Int) - 1 = (k : Int) := by omega
    have hk3 : (s.size : Int) = (k : Int) + 1 := by omega
    by_cases hx : x = 0
    · subst hx
      simp only [if_true] at HPN HPE
      go_enter Tryz.func84, Tryz.ntmps84
      go_wp2
      go_ret2
      rw [HPN.out, HPE.out]
      exact ⟨rfl, rfl⟩
    · have hxb : (x == 0) = false := by simp [hx]
      rw [if_neg hx] at HPN HPE
      by_cases hg : ((k + 1 : Nat) : Int) < x
      · rw [if_pos hg] at HPN HPE
        have hg2 : (s.size : Int) < x := by omega
        clear hx
        go_enter Tryz.func84, Tryz.ntmps84
        go_wp2
        go_ret2
        rw [HPN.out, HPE.out]
        exact ⟨rfl, rfl⟩
      · rw [if_neg hg] at HPN HPE
        have hg2 : ¬ (s.size : Int) < x := by omega
        clear hx
        go_enter Tryz.func84, Tryz.ntmps84
        go_wp2
        go_ret2
        rw [HPN.out, HPE.out]
        exact ⟨rfl, rfl⟩

/-- what splitPadding leaves -/
def spP (p : P) (l : List UInt8) : P := { p with pay := lst (l.take (l.length - (pdN l).toNat)), pad := pdN l }

set_option maxHeartbeats 1000000 in
theorem splitPad (pd pr : Nat) (d : P) (l : List UInt8) (v : Value) (s : St) (w : World) (hl : l.length ≤ 4611686018427387904) (hp : d.pay = lst l) (hd : Blk w pd (pc d v) PT) (hr : Rs w pr s) (hne : pd ≠ pr) :
    Calls Tryz.prog 48 #[.pointer (some ⟨pd, 0, none⟩), .pointer (some ⟨pr, 0, none⟩)] w fun en w' => en = .returned (.tuple #[]) ∧ Both w w' pd pr (spP d l) v (fl (pdE l) s) := by
  have HPd := Lib.hid (fun w => padding l hl w)
  have HFl := Lib.hid (fun x w h => fail_st pr s x w h)
  have HSP : Hid (spP d l = { d with pay := lst (l.take (l.length - (pdN l).toNat)), pad := pdN l }) := Lib.hid rfl
  have hn := pdN_bd l
  obtain ⟨m, hm⟩ : ∃ m : Nat, pdN l = (m : Int) := ⟨(pdN l).toNat, by omega⟩
  obtain ⟨j, hj⟩ : ∃ j : Nat, j + m = l.length := ⟨l.length - m, by omega⟩
  have hex : (lst l).extract 0 j = lst (l.take j) := by unfold lst; rw [extract_mk]; simp
  have hsz : (lst l).size = l.length := size_mk l
  have hj2 : ((lst l).size : Int) - (m : Int) = (j : Int) := by omega
  have hj3 : (j : Int) ≤ ((lst l).size : Int) := by omega
  have hjb : j ≤ 4611686018427387904 := by omega
  have hsb : (lst l).size ≤ 4611686018427387904 := by omega
  rw [hm] at HPd HSP hn
  rw [show l.length - (m : Int).toNat = j by omega] at HSP
  have c9 := pc9 hd
  rw [hp] at c9
  have H0 := Lib.hid (And.intro hd hr)
  have HEX := Lib.hid hex
  clear hd hr hm hex hsz hj hp
  generalize lst (l.take j) = T at *
  generalize lst l = L at *
  generalize pdE l = x at *
  go_enter Tryz.func48, Tryz.ntmps48
  go_wp2_with fail
  refine (HPd.out w).mono ?_
  rintro e w1 ⟨rfl, rfl⟩
  go_wp2_with fail
  refine (HFl.out x w H0.out.2).mono ?_
  rintro e w2 ⟨rfl, hr2, ht2⟩
  have hd2 := ht2.blk H0.out.1 hne
  have c9' := (ht2.cell (a := ⟨pd, 9, none⟩) H0.out.1.lt hne).trans c9
  have f9 := hd2.free 9
  have c10 := pc10 hd2
  have f10 := hd2.free 10
  have H2 := Lib.hid (And.intro hd2 (And.intro hr2 ht2))
  clear hd2 hr2 ht2 H0 c9
  go_wp2_with fail
  have hwj : IntKind.i64.wrap (j : Int) = (j : Int) := IntWalk.i64_in _ (by omega)
  go_region
  all_goals
    go_wp2
    go_end0
    have hT : Turns (fun k => k = pd ∨ k = pr) w w2 := H2.out.2.2.mono (fun _ _ h => .inr h)
    refine ⟨rfl, ?_, ?_, ?_⟩
    · rw [HSP.out, ← HEX.out]
      exact ps10 (ps9 H2.out.1 (L.extract 0 j)) (m : Int)
    · exact H2.out.2.1.turns (((Turns.refl (· = pd) w2).setCell (p := ⟨pd, 9, none⟩) (.inl rfl) (.string (L.extract 0 j))).setCell (p := ⟨pd, 10, none⟩) (.inl rfl) (.int .i64 (m : Int))).drew (fun h => hne h.symm)
    · exact ((hT.setCell (p := ⟨pd, 9, none⟩) (.inl (.inl rfl)) _).setCell (p := ⟨pd, 10, none⟩) (.inl (.inl rfl)) _).drew
end Go.Proofs.YtcppibjllaablaaGreat.rp
