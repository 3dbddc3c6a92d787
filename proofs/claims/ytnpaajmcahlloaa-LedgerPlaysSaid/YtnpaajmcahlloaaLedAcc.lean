/-
  ledger.Book: Accept, skip.
-/
import Derived.Test.YtnpaajmcahlloaaLedSeq
import Derived.Test.YtnpaajmcahlloaaPuts
namespace Go.Proofs.Ytnpaajmcahlloaa.led
open Go.RowKit mem
set_option linter.unusedVariables false

/-- the blocks of a book -/
abbrev Foot (p : Nat) (v : Value) (k : Nat) : Prop := k = p ∨ some k = v.ownBlock
/-- what a call leaves -/
structure Lft (w w' : World) (p : Nat) (v v' : Value) (L : List Fr) (i : Nat) : Prop where
  bk : Bk w' p v' L i
  t : Turns (Foot p v) w w'
  src : ∀ g, v'.ownBlock = some g → v.ownBlock = some g ∨ w.heap.size ≤ g
theorem Lft.refl {w : World} {p : Nat} {v : Value} {L : List Fr} {i : Nat} (h : Bk w p v L i) : Lft w w p v v L i := ⟨h, Turns.refl _ _, fun g hg => .inl hg⟩
theorem Lft.drew {w w1 : World} {p : Nat} {v v1 : Value} {L : List Fr} {i : Nat} (h : Lft w w1 p v v1 L i) : Lft w w1.drew p v v1 L i :=
  ⟨h.bk.turns ((Turns.refl (fun _ => False) _).drew) (fun h => h) (fun _ _ h => h), h.t.drew, h.src⟩
theorem Lft.drewN {w w1 : World} {p : Nat} {v v1 : Value} {L : List Fr} {i : Nat} (h : Lft w w1 p v v1 L i) (n : Nat) : Lft w (w1.drewN n) p v v1 L i :=
  ⟨h.bk.turns ((Turns.refl (fun _ => False) _).drewN n) (fun h => h) (fun _ _ h => h), h.t.drewN n, h.src⟩
theorem Lft.trans {w w1 w2 : World} {p : Nat} {v v1 v2 : Value} {L L' : List Fr} {i j : Nat} (h : Lft w w1 p v v1 L i) (k : Lft w1 w2 p v1 v2 L' j) : Lft w w2 p v v2 L' j :=
  ⟨k.bk, h.t.trans (k.t.mono (fun m _ hm => by
    rcases hm with e | e
    · exact .inl (.inl e)
    · rcases h.src m e.symm with e2 | e2
      · exact .inl (.inr e2.symm)
      · exact .inr e2)), fun g hg => by
    rcases k.src g hg with e | e
    · exact h.src g e
    · exact .inr (Nat.le_trans h.t.size e)⟩

theorem cnt_push (f : Int) (L : List Fr) (x : Fr) : cnt f (L ++ [x]) = cnt f L + (if x.fate = f then 1 else 0) := by
  unfold cnt
  rw [List.countP_append, List.countP_singleton]
  by_cases h : x.fate = f <;> simp [h]

theorem len_push (L : List Fr) (x : Fr) : (L ++ [x]).length = L.length + 1 := by simp
set_option maxHeartbeats 1000000 in
theorem accept (p : Nat) (v : Value) (L : List Fr) (i : Nat) (now : Int) (w : World) (h : Bk w p v L i) (hl : L.length < 1000) (n0 : 0 ≤ now) (n1 : now ≤ 1048576) :
    Calls Try.prog 8 #[.pointer (some ⟨p, 0, none⟩), .int .i64 now] w fun e w' => ∃ v', e = .returned (.int .i64 L.length) ∧ Lft w w' p v v' (L ++ [⟨now, 0, 0⟩]) i := by
  have c0 := h.c0
  have HH := Lib.hid h
  have hplt := h.blk.lt
  have hcn := cnt_le 0 L
  clear h
  go_enter Try.func8, Try.ntmps8
  go_upto_region 2 with (at_builtin; refine wpList_append_one (E := FE) Try.underlying24 infoF rfl (by decide) (by decide) rfl _ _ rfl v L ⟨now, 0, 0⟩ rfl (HH.out.own.turns (S := fun _ => False) ((Turns.refl _ _).alloc _) (fun _ _ h => h)) w.heap.size rfl (heap_alloc_new w _) (by omega) ?_; intro v4 w4 hown4 hgrow4 hat4; have ht4 := Gr.turned hgrow4; have hb4 := ht4.blk HH.out.blk (fun e => HH.out.off p e.symm rfl); have z0 : w4.cell? ⟨p, 0, none⟩ = some v := hb4.cell 0; have f0 := hb4.free 0; obtain ⟨a4, c4, hv4, _, _, _⟩ := hown4.form; rw [len_push] at hv4; subst hv4)
  obtain ⟨v4, hv4⟩ : ∃ v4, v4 = Value.slice a4 (L.length + 1) c4 := ⟨_, rfl⟩
  rw [← hv4] at hown4 hat4 ⊢
  have HB5 : Hid (Blk (w4.setCell ⟨p, 0, none⟩ v4) p (bcells v4 L i).toArray BT) := Lib.hid (hb4.set 0 v4)
  have HP4 : Hid (∀ g, v4.ownBlock = some g → (v.ownBlock = some g ∨ w.heap.size ≤ g) ∧ g ≠ p) := Lib.hid (by
    intro g hg
    rcases hat4 with e | e
    · exact ⟨.inl (by rw [← e]; exact hg), HH.out.off g (by rw [← e]; exact hg)⟩
    · rw [e] at hg
      injection hg with hg
      simp at hg
      exact ⟨.inr (by omega), by omega⟩)
  have HO5 : Hid (Owns FE FT (w4.setCell ⟨p, 0, none⟩ v4) v4 (L ++ [⟨now, 0, 0⟩])) := Lib.hid (hown4.turns ((Turns.refl (· = p) w4).setCell (.inl rfl) v4) (fun g hg e => (HP4.out g hg).2 e))
  have HT5 : Hid (Turns (Foot p v) w (w4.setCell ⟨p, 0, none⟩ v4)) := Lib.hid ((ht4.mono (fun k _ hk => .inr hk)).setCell (p := ⟨p, 0, none⟩) (.inl (.inl rfl)) v4)
  refine (show Code.wp _ _ _ _ (w4.setCell ⟨p, 0, none⟩ v4) from ?_)
  clear c0 z0 f0 hown4 hgrow4 hat4 ht4 hb4
  generalize w4.setCell ⟨p, 0, none⟩ v4 = w5 at *
  have c1 : w5.cell? ⟨p, 1, none⟩ = some (.int .i64 (cnt 0 L)) := HB5.out.cell 1
  have c0 : w5.cell? ⟨p, 0, none⟩ = some v4 := HB5.out.cell 0
  have f1 := HB5.out.free 1
  have hlen : (L ++ [(⟨now, 0, 0⟩ : Fr)]).length = L.length + 1 := by simp
  have HB6 : Hid (Blk (w5.setCell ⟨p, 1, none⟩ (.int .i64 ((cnt 0 L : Int) + 1))) p (bcells v4 (L ++ [⟨now, 0, 0⟩]) i).toArray BT) := Lib.hid (by
    have h1 := HB5.out.set 1 (.int .i64 ((cnt 0 L : Int) + 1))
    unfold bcells
    rw [cnt_push, cnt_push, cnt_push, cnt_push]
    exact h1)
  have HL6 : Hid (Lft w (w5.setCell ⟨p, 1, none⟩ (.int .i64 ((cnt 0 L : Int) + 1))) p v v4 (L ++ [⟨now, 0, 0⟩]) i) := Lib.hid ⟨⟨HB6.out, HO5.out.turns ((Turns.refl (· = p) w5).setCell (.inl rfl) _) (fun g hg e => (HP4.out g hg).2 e), by rw [hlen]; omega, (by
      intro x hx
      rw [List.mem_append, List.mem_singleton] at hx
      rcases hx with hx | rfl
      · exact HH.out.ok x hx
      · exact ⟨n0, n1, Int.le_refl 0, (show (0 : Int) ≤ 3 by decide), Int.le_refl 0, (show (0 : Int) ≤ 1048576 by decide)⟩), by rw [hlen]; have := HH.out.il; omega, (by
      intro k x hk hx
      rw [List.getElem?_append_left (by have := HH.out.il; omega)] at hx
      exact HH.out.past k x hk hx)⟩, HT5.out.setCell (p := ⟨p, 1, none⟩) (.inl (.inl rfl)) _, fun g hg => (HP4.out g hg).1⟩
  subst hv4
  clear hplt hlen
  generalize cnt 0 L = cn at *
  generalize hlL : L.length = len at *
  have HLL := Lib.hid hlL
  clear hlL
  go_region
  all_goals
    go_wp2
    go_ret
    exact ⟨_, by rw [HLL.out]; rfl, by first | exact HL6.out | exact HL6.out.drew⟩

def at5 (w : World) (p : Nat) : Nat := match w.cell? ⟨p, 5, none⟩ with
  | some v => (intOf v).toNat
  | none => 0
theorem skip (p : Nat) (v : Value) (L : List Fr) (i : Nat) (w : World) (h : Bk w p v L i) :
    Calls Try.prog 19 #[.pointer (some ⟨p, 0, none⟩)] w fun e w' => e = .returned (.tuple #[]) ∧ ∃ j, Lft w w' p v v L j := by
  have HL := Lib.hid (Lft.refl h)
  have hlen := h.len
  clear h
  go_enter Try.func19, Try.ntmps19
  go_wp2_with fail
  go_loopw [] (fun wr => ∃ j, Lft w wr p v v L j) (fun wr => L.length - at5 wr p)
  case atStart => exact ⟨i, HL.out⟩
  case round =>
    obtain ⟨j, hj⟩ := hrel
    clear HL
    have HJ := Lib.hid hj
    obtain ⟨ao, c, hv, hc, hat⟩ := hj.bk.at_
    have c0 := hj.bk.c0
    have c5 := hj.bk.c5
    have f5 := hj.bk.free 5
    have hA5 : Hid (at5 wr p = j) := Lib.hid (by unfold at5; rw [c5]; simp [intOf])
    clear hj
    by_cases hlt : j < L.length
    · obtain ⟨g, hao, hgp, hg, z0, z1, z2⟩ := hat j _ (List.getElem?_eq_getElem hlt)
      have HX : Hid (L[j]? = some L[j]) := Lib.hid (List.getElem?_eq_getElem hlt)
      clear hat z0 z2
      subst hao
      generalize L[j] = x at *
      generalize hlL : L.length = len at *
      have HLL := Lib.hid hlL
      clear hlL
      have hltI : (j : Int) < (len : Int) := by omega
      have dlt : decide ((j : Int) < (len : Int)) = true := decide_eq_true hltI
      by_cases hf : x.fate = 0
      · have hb : (x.fate != 0) = false := by simp [hf]
        generalize x.fate = xf at *
        clear hf
        subst hv
        go_upto_region 0 with fail
        go_quiet (fail)
        go_wp2
        go_end0
        exact ⟨rfl, j, ⟨HJ.out.bk.turns ((Turns.refl (fun _ => False) _).drewN _) (fun h => h) (fun _ _ h => h), HJ.out.t.drewN _, HJ.out.src⟩⟩
      · have hb : (x.fate != 0) = true := by simp [hf]
        have hF : ∀ n, Lft w ((wr.drewN n).setCell ⟨p, 5, none⟩ (.int .i64 ((j + 1 : Nat) : Int))) p v v L (j + 1) := (fun n => ⟨⟨HJ.out.bk.blk.set 5 _, HJ.out.bk.own.turns (S := (· = p)) (((Turns.refl (· = p) wr).drewN n).setCell (.inl rfl) _) (fun g hg e => HJ.out.bk.off g hg e), HJ.out.bk.len, HJ.out.bk.ok, (by have := HLL.out; omega), (by
          intro k y hk hy
          by_cases e : k = j
          · subst e
            rw [HX.out] at hy
            injection hy with hy
            rw [← hy]; exact hf
          · exact HJ.out.bk.past k y (by omega) hy)⟩, (HJ.out.t.drewN n).setCell (.inl (.inl rfl)) _, HJ.out.src⟩)
        have hM : ∀ n, at5 ((wr.drewN n).setCell ⟨p, 5, none⟩ (.int .i64 ((j + 1 : Nat) : Int))) p = j + 1 := (fun n => by unfold at5; rw [(hF n).bk.c5]; simp [intOf])
        rw [show ((j + 1 : Nat) : Int) = (j : Int) + 1 by omega] at hF hM
        have HF := Lib.hid hF
        have HM := Lib.hid hM
        clear hF hM
        generalize x.fate = xf at *
        clear hf
        subst hv
        go_upto_region 0 with fail
        go_quiet (fail)
        go_wp2
        go_roundw
        case rel => exact ⟨j + 1, HF.out _⟩
        case measure => simp only [hA5.out]; rw [HM.out]; omega
    · have hjl : j = L.length := by have := HJ.out.bk.il; omega
      clear hat
      subst hv
      generalize hlL : L.length = len at *
      have HLL := Lib.hid hlL
      clear hlL
      subst hjl
      have dlt : decide ((j : Int) < (j : Int)) = false := decide_eq_false (by omega)
      clear hlt
      go_upto_region 0 with fail
      go_quiet (fail)
      go_wp2
      go_end0
      exact ⟨rfl, j, by rw [HLL.out]; exact HJ.out.drewN _⟩
end Go.Proofs.Ytnpaajmcahlloaa.led
