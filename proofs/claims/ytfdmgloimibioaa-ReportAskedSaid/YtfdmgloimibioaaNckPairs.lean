/-
  rtcp: the pairs of numbers.
-/
import Derived.Test.YtfdmgloimibioaaNckSeqs
namespace Go.Proofs.Ytfdmgloimibioaa.rep
open Go.RowKit mem
open Go.Proofs.Ytfdmgloimibioaa.args (IntRow)
set_option linter.unusedVariables false

def dU (n q : Int) : Int := (q - n) % 65536
def orU (m d : Int) : Int := bits BinOp.or .u16 m (IntKind.u16.wrap (2 ^ (d.toNat - 1)))
theorem orU_bd (m d : Int) : 0 ≤ orU m d ∧ orU m d ≤ 65535 := by
  have h : ∀ x : Int, 0 ≤ IntKind.u16.wrap x ∧ IntKind.u16.wrap x ≤ 65535 := fun x => by
    show 0 ≤ x % 65536 ∧ x % 65536 ≤ 65535
    omega
  exact h _
def addP (x : PP) (q : Int) : PP × Bool := if 16 < dU x.n q then (x, false) else if 0 < dU x.n q then (⟨x.n, orU x.m (dU x.n q)⟩, true) else (x, true)
def pushP (l : List PP) (q : Int) : List PP := match l.getLast? with
  | none => [⟨q, 0⟩]
  | some x => if (addP x q).2 = true then l.dropLast ++ [(addP x q).1] else l ++ [⟨q, 0⟩]
theorem pushP_nil (q : Int) : pushP [] q = [⟨q, 0⟩] := rfl
theorem pushP_snoc (t : List PP) (x : PP) (q : Int) : pushP (t ++ [x]) q = if (addP x q).2 = true then t ++ [(addP x q).1] else (t ++ [x]) ++ [⟨q, 0⟩] := by
  unfold pushP; simp
def psF (z : Nat → Int) : Nat → List PP
  | 0 => []
  | k + 1 => pushP (psF z k) (z k)
theorem addP_ok {x : PP} (h : x.ok) (q : Int) : (addP x q).1.ok := by
  unfold addP
  split
  · exact h
  · split
    · have := orU_bd x.m (dU x.n q); exact ⟨h.n0, h.n1, this.1, this.2⟩
    · exact h
theorem snoc_or (l : List PP) : l = [] ∨ ∃ t x, l = t ++ [x] := by
  induction l with
  | nil => exact .inl rfl
  | cons y l ih =>
    right
    rcases ih with rfl | ⟨t, x, rfl⟩
    · exact ⟨[], y, rfl⟩
    · exact ⟨y :: t, x, rfl⟩
theorem addP_no {x : PP} {q : Int} (h : ¬ (addP x q).2 = true) : (addP x q).1 = x := by
  unfold addP at h ⊢
  split
  · rfl
  · rename_i h1
    rw [if_neg h1] at h
    split
    · rename_i h2; rw [if_pos h2] at h; exact absurd rfl h
    · rfl
theorem psF_ok (z : Nat → Int) (k : Nat) (hz : ∀ i, i < k → 0 ≤ z i ∧ z i ≤ 65535) : (∀ x ∈ psF z k, x.ok) ∧ (psF z k).length ≤ k := by
  induction k with
  | zero => exact ⟨fun x hx => by simp [psF] at hx, Nat.le_refl _⟩
  | succ k ih =>
    obtain ⟨h1, h2⟩ := ih (fun i hi => hz i (by omega))
    obtain ⟨z0, z1⟩ := hz k (by omega)
    have hn : (⟨z k, 0⟩ : PP).ok := ⟨z0, z1, Int.le_refl _, (by decide : (0 : Int) ≤ 65535)⟩
    show (∀ x ∈ pushP (psF z k) (z k), x.ok) ∧ (pushP (psF z k) (z k)).length ≤ k + 1
    rcases snoc_or (psF z k) with e | ⟨t, x, e⟩
    · rw [e, pushP_nil]
      exact ⟨fun x hx => by simp at hx; subst hx; exact hn, by simp⟩
    · rw [e] at h1 h2 ⊢
      rw [pushP_snoc]
      simp only [List.length_append, List.length_singleton] at h2
      split
      · refine ⟨fun y hy => ?_, by simp; omega⟩
        simp at hy
        rcases hy with hy | rfl
        · exact h1 y (by simp [hy])
        · exact addP_ok (h1 x (by simp)) _
      · refine ⟨fun y hy => ?_, by simp; omega⟩
        simp at hy
        rcases hy with hy | rfl | rfl
        · exact h1 y (by simp [hy])
        · exact h1 _ (by simp)
        · exact hn

theorem padd (w wr : World) (g c : Nat) (t : List PP) (x : PP) (q : Int) (h : Gr PPE PrT w wr (.slice (some ⟨g, 0, none⟩) (t.length + 1) c) (t ++ [x])) (hx : x.ok) (q0 : 0 ≤ q) (q1 : q ≤ 65535) :
    Calls Try.prog 45 #[.pointer (some ⟨g, t.length * 2, none⟩), .int .u16 q] wr fun e w' => e = .returned (.bool (addP x q).2) ∧ Gr PPE PrT w w' (.slice (some ⟨g, 0, none⟩) (t.length + 1) c) (t ++ [(addP x q).1]) := by
  have hxt : (t ++ [x])[t.length]? = some x := by rw [List.getElem?_append_right (Nat.le_refl _)]; simp
  obtain ⟨c0, c1⟩ : wr.cell? ⟨g, t.length * 2, none⟩ = some (.int .u16 x.n) ∧ wr.cell? ⟨g, t.length * 2 + 1, none⟩ = some (.int .u16 x.m) := by
    obtain ⟨ao, c', e, _, hrd, _⟩ := h.own.form
    rcases hrd with h0 | ⟨g', e2, _, hcell⟩
    · simp at h0
    · injection e with e1 _ _
      rw [e2] at e1
      injection e1 with e1
      injection e1 with e1
      subst e1
      exact ⟨hcell _ x hxt 0 _ rfl, hcell _ x hxt 1 _ rfl⟩
  have f1 : wr.frozen? ⟨g, t.length * 2 + 1, none⟩ = false := by
    rcases h.own.2 with ⟨e, _⟩ | ⟨g', cap, cur, e, _, hg, _⟩
    · exact absurd e (by simp)
    · injection e with e _ _
      injection e with e
      injection e with e
      subst e; exact (show Blk wr g cur PrT from hg).free _
  have hbase := h.vb g rfl
  have HSET : Hid (∀ m', Gr PPE PrT w (wr.setCell ⟨g, t.length * 2 + 1, none⟩ (.int .u16 m')) (.slice (some ⟨g, 0, none⟩) (t.length + 1) c) (t ++ [⟨x.n, m'⟩])) := Lib.hid (fun m' => by
    have o := h.own.setCell (g := g) (j := t.length) (i := 1) rfl hxt (y := ⟨x.n, m'⟩) (.int .u16 m') (by decide) rfl
    have e : (t ++ [x]).set t.length ⟨x.n, m'⟩ = t ++ [⟨x.n, m'⟩] := by rw [List.set_append_right _ _ (Nat.le_refl _)]; simp
    rw [e] at o
    exact ⟨o, h.vb, h.n.setCell (.inr hbase) _⟩)
  have HG := Lib.hid h
  have hdd : IntKind.u16.wrap (q - x.n) = dU x.n q := rfl
  have hd0 : 0 ≤ dU x.n q := by unfold dU; omega
  have HP : Hid (addP x q = if 16 < dU x.n q then (x, false) else if 0 < dU x.n q then (⟨x.n, orU x.m (dU x.n q)⟩, true) else (x, true)) := Lib.hid rfl
  have n0 := hx.n0
  have n1 := hx.n1
  have m0 := hx.m0
  have m1 := hx.m1
  have HOR : Hid (∀ d, orU x.m d = bits BinOp.or .u16 x.m (IntKind.u16.wrap (2 ^ (d.toNat - 1)))) := Lib.hid (fun d => rfl)
  clear h hx hxt
  rw [HP.out]
  generalize dU x.n q = d at *
  by_cases hbig : 16 < d
  · rw [if_pos hbig]
    go_enter Try.func45, Try.ntmps45
    go_wp2
    go_ret
    exact ⟨rfl, HG.out⟩
  · rw [if_neg hbig]
    by_cases hpos : 0 < d
    · rw [if_pos hpos]
      have hd1 : 1 ≤ d := by omega
      have hd2 : d ≤ 16 := by omega
      go_enter Try.func45, Try.ntmps45
      go_wp2
      go_ret
      exact ⟨rfl, HSET.out _⟩
    · rw [if_neg hpos]
      have hd1 : d = 0 := by omega
      subst hd1
      clear hpos hbig
      go_enter Try.func45, Try.ntmps45
      go_wp2
      go_ret
      exact ⟨rfl, HG.out⟩

theorem infoPr : (Try.prog.info? PrT).map (fun i => (i.zero, i.size, i.bytes)) = some (some (.agg #[.int .u16 0, .int .u16 0]), 2, 4) := by kernel_rfl

set_option maxHeartbeats 2000000 in
theorem pairs (a : Option Addr) (n c : Nat) (z : Nat → Int) (w : World) (hz : IntRow .u16 w a n c z) (hn : n ≤ 1000) :
    Calls Try.prog 34 #[.slice a n c] w fun e w' => ∃ v, e = .returned v ∧ Gr PPE PrT w w' v (psF z n) := by
  obtain ⟨_, hwf, hcell⟩ := hz
  have hbd : ∀ i, i < n → 0 ≤ z i ∧ z i ≤ 65535 := fun i hi => by
    have hq := hwf i hi
    simp [Lit.wf, IntKind.min, IntKind.max, IntKind.bits, IntKind.signed] at hq; omega
  have HBD := Lib.hid hbd
  have HC := Lib.hid hcell
  have hnm : n ≤ maxLen := by unfold maxLen; omega
  clear hwf hcell hbd
  go_enter Try.func34, Try.ntmps34
  go_wp2_with fail
  go_loopw [3, 8] (fun v i wr => ∃ k : Nat, k ≤ n ∧ i = .int .i64 k ∧ Gr PPE PrT w wr v (psF z k)) (fun _ i _ => n - (intOf i).toNat)
  case atStart => exact ⟨0, Nat.zero_le _, rfl, Gr.nil _ _ _ _ (Turns.refl _ _)⟩
  case round =>
    obtain ⟨k, hk, rfl, hgr⟩ := hrel
    have HG := Lib.hid hgr
    clear hgr
    by_cases hlt : k < n
    · obtain ⟨b, off, rfl, hb, hc⟩ := HC.out.resolve_left (by omega)
      have d0 := (HG.out.n.cell (a := ⟨b, off + k, none⟩) hb (fun h => h)).trans (hc k hlt)
      obtain ⟨q0, q1⟩ := HBD.out k hlt
      have hok := psF_ok z k (fun i hi => HBD.out i (by omega))
      have HST : Hid (psF z (k + 1) = pushP (psF z k) (z k)) := Lib.hid rfl
      obtain ⟨hok1, hok2⟩ := hok
      clear hb hc
      generalize psF z k = l at *
      generalize z k = q at *
      rcases snoc_or l with rfl | ⟨t, x, rfl⟩
      · have hform := HG.out.own.form
        obtain ⟨ao, cc, hv, _⟩ := hform
        subst hv
        rw [pushP_nil] at HST
        clear hok1 hok2
        go_wp2_with (at_builtin; refine wpList_append_one (E := PPE) Try.underlying95 infoPr rfl (by decide) (by decide) rfl _ _ rfl _ [] ⟨q, 0⟩ rfl (HG.out.own.turns (S := fun _ => False) ((Turns.refl _ _).alloc _) (fun _ _ h => h)) wr.heap.size rfl (heap_alloc_new wr _) (by simp) ?_; intro v6 w6 hown6 hgrow6 hat6)
        have HG6 := Lib.hid (HG.out.push hown6 hgrow6 hat6)
        clear hown6 hgrow6 hat6
        go_roundw
        case rel => exact ⟨k + 1, by omega, by go_num, by rw [HST.out]; exact HG6.out⟩
        case measure => simp [intOf]; omega
      · have hform := HG.out.own.form
        obtain ⟨ao, cc, hv, hcc, hrd, _⟩ := hform
        have hao : ∃ g, ao = some ⟨g, 0, none⟩ := by
          rcases hrd with h0 | ⟨g, e, _⟩
          · simp at h0
          · exact ⟨g, e⟩
        obtain ⟨g, rfl⟩ := hao
        have hl1 : (t ++ [x]).length = t.length + 1 := by simp
        rw [hl1] at hv hcc hok2
        subst hv
        have HAD := Lib.hid (padd w wr g cc t x q HG.out (hok1 x (by simp)) q0 q1)
        rw [pushP_snoc] at HST
        have hlm : t.length + 1 ≤ maxLen := by unfold maxLen; omega
        have hsub : IntKind.i64.wrap (((t.length + 1 : Nat) : Int) - 1) = (t.length : Int) := by rw [IntWalk.i64_in _ (by omega)]; omega
        have hne : ¬ ((t.length + 1 : Nat) : Int) = 0 := by omega
        have HNO : Hid (¬ (addP x q).2 = true → (addP x q).1 = x) := Lib.hid addP_no
        clear hok1 hrd hl1
        generalize (addP x q).1 = x' at *
        by_cases hadd : (addP x q).2 = true
        · rw [if_pos hadd] at HST
          rw [hadd] at HAD
          go_wp2_with fail
          refine HAD.out.mono ?_
          rintro e w6 ⟨rfl, hg6⟩
          have HG6 := Lib.hid hg6
          clear hg6
          go_wp2_with fail
          go_roundw
          case rel => exact ⟨k + 1, by omega, by go_num, by rw [HST.out]; exact HG6.out⟩
          case measure => simp [intOf]; omega
        · have hx' := HNO.out hadd
          subst hx'
          rw [if_neg hadd] at HST
          have hadd2 : (addP x' q).2 = false := by simpa using hadd
          rw [hadd2] at HAD
          clear hadd hadd2 HNO
          go_wp2_with fail
          refine HAD.out.mono ?_
          rintro e w6 ⟨rfl, hg6⟩
          have HG6 := Lib.hid hg6
          clear hg6
          go_wp2_with (at_builtin; refine wpList_append_one (E := PPE) Try.underlying95 infoPr rfl (by decide) (by decide) rfl _ _ rfl _ (t ++ [x']) ⟨q, 0⟩ rfl (HG6.out.own.turns (S := fun _ => False) ((Turns.refl _ _).alloc _) (fun _ _ h => h)) w6.heap.size rfl (heap_alloc_new w6 _) (by simp; omega) ?_; intro v7 w7 hown7 hgrow7 hat7)
          have HG7 := Lib.hid (HG6.out.push hown7 hgrow7 hat7)
          clear hown7 hgrow7 hat7
          go_roundw
          case rel => exact ⟨k + 1, by omega, by go_num, by rw [HST.out]; exact HG7.out⟩
          case measure => simp [intOf]; omega
    · obtain rfl : k = n := by omega
      clear hlt hk
      go_wp2
      go_ret
      exact ⟨_, rfl, HG.out⟩
end Go.Proofs.Ytfdmgloimibioaa.rep
