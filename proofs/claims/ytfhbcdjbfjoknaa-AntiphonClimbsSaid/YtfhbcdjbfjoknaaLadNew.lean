/-
  ladder.New, and what it calls.
-/
import Derived.Test.YtfhbcdjbfjoknaaLadTick
namespace Go.Proofs.Ytfhbcdjbfjoknaa.lad
open Go.RowKit mem
open ints (IE IT ST infoI)
set_option linter.unusedVariables false

/-- the numbers N can be read at a -/
def Vw (w : World) (a : Option Addr) (N : List Int) : Prop := N = [] ∨ ∃ g o, a = some ⟨g, o, none⟩ ∧ g < w.heap.size ∧ ∀ k, (h : k < N.length) → w.cell? ⟨g, o + k, none⟩ = some (.int .i64 N[k])
theorem Vw.later {w w1 : World} {a : Option Addr} {N : List Int} (h : Vw w a N) (n : New w w1) : Vw w1 a N := by
  rcases h with h | ⟨g, o, ha, hg, hc⟩
  · exact .inl h
  · exact .inr ⟨g, o, ha, Nat.lt_of_lt_of_le hg n.size, fun k hk => (n.cell (a := ⟨g, o + k, none⟩) hg (fun h => h)).trans (hc k hk)⟩

theorem isNaN (x : Int) (w : World) : Calls Try.prog 96 #[.int .i64 x] w fun e w' => e = .returned (.bool false) ∧ w' = w := by
  go_enter Try.func96, Try.ntmps96
  go_wp2
  go_ret
  exact ⟨rfl, rfl⟩
theorem less (x y : Int) (w : World) : Calls Try.prog 77 #[.int .i64 x, .int .i64 y] w fun e w' => e = .returned (.bool (decide (x < y))) ∧ w' = w := by
  have HI := Lib.hid (fun x w => isNaN x w)
  go_enter Try.func77, Try.ntmps77
  go_wp2_with fail
  refine (HI.out _ _).mono ?_
  rintro e w1 ⟨rfl, rfl⟩
  go_wp2
  go_ret
  exact ⟨rfl, rfl⟩

/-- from i on, none is less than the one ahead -/
def ascFrom (N : List Int) (i : Nat) : Prop := ∀ k, i ≤ k → k < N.length → 0 < k → N.getD (k - 1) 0 ≤ N.getD k 0
def Asc (N : List Int) : Prop := ascFrom N 0
theorem Vw.get {w : World} {g o : Nat} {N : List Int} (hc : ∀ k, (h : k < N.length) → w.cell? ⟨g, o + k, none⟩ = some (.int .i64 N[k])) (k : Nat) (h : k < N.length) : w.cell? ⟨g, o + k, none⟩ = some (.int .i64 (N.getD k 0)) := by
  rw [hc k h]; simp [h]

set_option maxRecDepth 10000 in
set_option maxHeartbeats 1000000 in
theorem isSorted (a : Option Addr) (c : Nat) (N : List Int) (w : World) (h : Vw w a N) (hl : N.length ≤ 1000) :
    Calls Try.prog 50 #[.slice a N.length c] w fun e w' => ∃ b, e = .returned (.bool b) ∧ (b = true ↔ Asc N) ∧ New w w' := by
  have HLS := Lib.hid (fun x y w => less x y w)
  have HV := Lib.hid h
  clear h
  go_enter Try.func50, Try.ntmps50
  go_wp2_with fail
  go_loopw [3] (fun i wr => ∃ k : Nat, k ≤ N.length ∧ i = .int .i64 ((k : Int) - 1) ∧ ascFrom N k ∧ New w wr) (fun i _ => ((intOf i) + 1).toNat)
  case atStart => exact ⟨N.length, Nat.le_refl _, rfl, fun k h1 h2 => by omega, Turns.refl _ _⟩
  case round =>
    obtain ⟨k, hk, rfl, hasc, hn⟩ := hrel
    have HN := Lib.hid hn
    have HAS := Lib.hid hasc
    clear hn hasc
    by_cases hgo : 1 < k
    · obtain ⟨g, o, ha, hg, hcell⟩ := HV.out.resolve_left (by intro e; simp [e] at hk; omega)
      have hc1 := (HN.out.cell (a := ⟨g, o + (k - 1), none⟩) hg (fun h => h)).trans (Vw.get hcell (k - 1) (by omega))
      have hc2 := (HN.out.cell (a := ⟨g, o + (k - 2), none⟩) hg (fun h => h)).trans (Vw.get hcell (k - 2) (by omega))
      obtain ⟨m, hm⟩ : ∃ m, k = m + 2 := ⟨k - 2, by omega⟩
      subst hm
      rw [show m + 2 - 1 = m + 1 by omega] at hc1
      rw [show m + 2 - 2 = m by omega] at hc2
      subst ha
      have hx : ascFrom N (m + 1) ↔ N.getD m 0 ≤ N.getD (m + 1) 0 := by
        constructor
        · intro h
          have := h (m + 1) (Nat.le_refl _) (by omega) (by omega)
          simpa using this
        · intro h k h1 h2 h3
          by_cases e : k = m + 1
          · subst e; simpa using h
          · exact HAS.out k (by omega) h2 h3
      have HX := Lib.hid hx
      have hbN : Hid (Asc N → ascFrom N (m + 1)) := Lib.hid (fun h k h1 h2 h3 => h k (by omega) h2 h3)
      generalize N.getD (m + 1) 0 = xa at *
      generalize N.getD m 0 = xb at *
      have i1 : (0 : Int) ≤ (m : Int) + 1 := by omega
      have i2 : (m : Int) + 1 < (N.length : Int) := by omega
      have i3 : (0 : Int) ≤ (m : Int) := by omega
      have i4 : (m : Int) < (N.length : Int) := by omega
      have s1 : IntKind.i64.wrap (((m + 2 : Nat) : Int) - 1 - 1) = (m : Int) := by rw [IntWalk.i64_in _ (by omega)]; omega
      have e1 : ((m + 2 : Nat) : Int) - 1 = (m : Int) + 1 := by omega
      rw [e1]
      have s2 : IntKind.i64.wrap ((m : Int) + 1 - 1) = (m : Int) := by rw [IntWalk.i64_in _ (by omega)]; omega
      have HLS2 := Lib.hid (fun nq => HLS.out xa xb (wr.drewN nq))
      clear hcell hg hx
      by_cases hlt : xa < xb
      · have d1 : decide (xa < xb) = true := decide_eq_true hlt
        rw [d1] at HLS2
        go_wp2_with fail
        go_quiet ((go_at_call 77; exact Calls.quiet_of_same (HLS2.out _)))
        go_wp2
        go_ret
        exact ⟨false, rfl, ⟨fun h => by simp at h, fun h => by have := HX.out.1 (hbN.out h); omega⟩, HN.out.drewN _⟩
      · have d1 : decide (xa < xb) = false := decide_eq_false hlt
        rw [d1] at HLS2
        go_wp2_with fail
        go_quiet ((go_at_call 77; exact Calls.quiet_of_same (HLS2.out _)))
        go_wp2
        go_roundw
        case rel => exact ⟨m + 1, by omega, by go_num, HX.out.2 (by omega), HN.out.drewN _⟩
        case measure => simp [intOf]; omega
    · have i1 : (k : Int) - 1 ≤ 0 := by omega
      have d1 : decide ((0 : Int) < (k : Int) - 1) = false := decide_eq_false (by omega)
      have HAA : Hid (Asc N) := Lib.hid (fun j h1 h2 h3 => HAS.out j (by omega) h2 h3)
      go_wp2
      go_ret
      exact ⟨true, rfl, ⟨fun _ => HAA.out, fun _ => rfl⟩, HN.out⟩

/-- append of numbers that can be read somewhere: a step of a list of operations -/
theorem wpList_append_view {P : Program} {T RT : TypeId} {z : Value} {bytes : Nat} (hu : P.underlying RT = some (.slice T)) (hi : (P.info? T).map (fun i => (i.zero, i.size, i.bytes)) = some (some z, IE.n, bytes)) (hz : z.cells.size = IE.n) (hb : bytes ≤ 4096)
    {ops : Array Oper} {rest : List Oper} {o : Oper} {a : Act} {Q : Exit → Act → World → Prop} {W : World} (hgd : o.guard = none) (sl x : Operand)
    (ho : o.op = .call { callee := .builtin .append, args := #[sl, x], argTypes := #[RT, RT] }) (v : Value) (l m : List Int) (hs : a.eval sl = v) (hr : Owns IE T W v l) (g of c : Nat) (hx : a.eval x = .slice (some ⟨g, of, none⟩) m.length c)
    (hcell : ∀ k, (h : k < m.length) → W.cell? ⟨g, of + k, none⟩ = some (.int .i64 m[k])) (h63 : l.length + m.length ≤ 1048576)
    (h : ∀ v' w', Owns IE T w' v' (l ++ m) → W.grownBy w' v.ownBlock → (v'.ownBlock = v.ownBlock ∨ v'.ownBlock = some W.heap.size) → wpList P ops Q rest (a.put o.dst v') w') : wpList P ops Q (o :: rest) a W := by
  refine wpList_plain hgd fun K hK => ?_
  obtain ⟨i0, hi', hz0, hz1, hz2⟩ := infoOf hi
  have hby : (l.length + m.length) * bytes ≤ 1048576 * 4096 := Nat.mul_le_mul h63 hb
  obtain ⟨v', w', hrun, h2, h3, _, h5⟩ := run_append_own_at (P := P) W 0 RT o.type T i0 _ IE.n bytes hu hi' hz0 hz1 hz2 hz (by decide) v l.length (IE.all l) hr ⟨g, of, none⟩ m.length c (IE.all m) (IE.all_length m)
    (fun j u hj => by
      rw [ints.all_get] at hj
      cases hm : m[j]? with
      | none => rw [hm] at hj; simp at hj
      | some y =>
        rw [hm] at hj
        obtain ⟨hlt, hy⟩ := List.getElem?_eq_some_iff.1 hm
        have := hcell j hlt
        rw [show (⟨g, of, none⟩ : Addr).add j = ⟨g, of + j, none⟩ by unfold Addr.add; split <;> simp_all, this, hy]
        simpa using hj)
    (IE.all_cell m) (by unfold maxLen; omega) (by omega) (Nat.zero_le _)
  unfold Oper.wp execOp
  simp only [ho, resolve, invoke, builtin, Sem.run_bind, Sem.run_pure, Result.andThen_ok, List.map_toArray, List.map_cons, List.map_nil, hs, hx, hrun]
  refine hK _ _ (h v' w' ?_ h3 h5)
  unfold Owns
  rw [IE.all_append, List.length_append]
  exact h2

set_option maxRecDepth 100000 in
theorem clone (a : Option Addr) (c : Nat) (N : List Int) (w : World) (h : Vw w a N) (h1 : 1 ≤ N.length) (h3 : N.length ≤ 3) :
    Calls Try.prog 31 #[.slice a N.length c] w fun e w' => ∃ g c', e = .returned (.slice (some ⟨g, 0, none⟩) N.length c') ∧ New w w' ∧ w.heap.size ≤ g ∧ g < w'.heap.size ∧ ∀ k, (h : k < N.length) → w'.cell? ⟨g, k, none⟩ = some (.int .i64 N[k]) := by
  have q : ∀ (w : World) (a : Option Addr) (n c n' c' : Nat), (binOp .eql ST (.slice a n c) (.slice none n' c')).run Try.prog w = .ok (.bool a.isNone) w := fun w a n c n' c' => Lib.run_eql_slice_nil w _ _ _ _ _ _ _ Try.underlying22
  obtain ⟨g, o, ha, hg, hcell⟩ := h.resolve_left (by intro e; simp [e] at h1)
  subst ha
  have HO : Hid (Owns IE IT (w.alloc (.cells #[] IT)) (.slice (some ⟨w.heap.size, 0, none⟩) 0 0) []) := Lib.hid (ints.Owns.made0 (Blk.new _ _ _))
  have HC : Hid (∀ k, (h : k < N.length) → (w.alloc (.cells #[] IT)).cell? ⟨g, o + k, none⟩ = some (.int .i64 N[k])) := Lib.hid (fun k hk => (((Turns.refl (fun _ => False) w).alloc (.cells #[] IT)).cell (a := ⟨g, o + k, none⟩) hg (fun h => h)).trans (hcell k hk))
  have HL : Hid (([] : List Int).length + N.length ≤ 1048576) := Lib.hid (by simp; omega)
  have HNE : Hid (N ≠ []) := Lib.hid (by intro e; simp [e] at h1)
  clear hcell hg
  go_enter Try.func31, Try.ntmps31
  go_wp2_with (at_builtin; refine wpList_append_view Try.underlying22 infoI rfl (by decide) rfl _ _ rfl _ [] N rfl HO.out g o c rfl HC.out HL.out ?_)
  intro v' w1 hown hgrow hat
  have G := Lib.hid (ints.madeC (w2 := w) (L := N) ((Turns.refl (fun _ => False) w).alloc (.cells #[] IT)) (Nat.le_refl _) hown hgrow (by rw [World.size_alloc]; exact hat))
  clear hown hgrow hat HO HC HL
  obtain ⟨g', o', c', hv', _, _, hg', hc'⟩ := ints.Sub.at_ (G.out.own.sub 0 (fun _ _ => Nat.zero_le _)) HNE.out
  obtain ⟨ao, cc, hv2, _, hrd, _⟩ := G.out.own.form
  have hvb := G.out.vb g' (by rw [hv']; rfl)
  have HO' : Hid (o' = 0) := Lib.hid (by
    rcases hrd with h0 | ⟨gg, hgg, _⟩
    · exact absurd h0 HNE.out
    · rw [hv2] at hv'
      subst hgg
      injection hv' with e1
      injection e1 with e1
      injection e1 with e1 e2
      exact e2.symm)
  have HV := Lib.hid hv'
  have HG := Lib.hid (And.intro hvb (And.intro hg' hc'))
  clear hv2 hrd hvb hg' hc' hv'
  have HVV := HV.out
  subst HVV
  go_wp2
  go_ret
  have e := HO'.out
  subst e
  exact ⟨g', ⟨c', rfl⟩, G.out.n, HG.out.1, HG.out.2.1, fun k hk => by have := HG.out.2.2 k hk; rwa [Nat.zero_add] at this⟩

def Rise (N : List Int) : Prop := 1 ≤ N.length ∧ N.length ≤ 3 ∧ Asc N ∧ 0 ≤ N.getD 0 0 ∧ N.getD (N.length - 1) 0 ≤ 1099511627776
theorem asc_le {N : List Int} (h : Asc N) (i j : Nat) (hij : i ≤ j) (hj : j < N.length) : N.getD i 0 ≤ N.getD j 0 := by
  induction j with
  | zero => have : i = 0 := by omega
            subst this; exact Int.le_refl _
  | succ j ih =>
    by_cases e : i = j + 1
    · subst e; exact Int.le_refl _
    · have := ih (by omega) (by omega)
      have h2 := h (j + 1) (Nat.zero_le _) hj (by omega)
      rw [show j + 1 - 1 = j by omega] at h2
      omega
theorem Rise.bd {N : List Int} (h : Rise N) : ∀ x ∈ N, 0 ≤ x ∧ x ≤ 1099511627776 := by
  intro x hx
  obtain ⟨i, hi, rfl⟩ := List.getElem_of_mem hx
  have e : N[i] = N.getD i 0 := by simp [hi]
  rw [e]
  have h1 := asc_le h.2.2.1 0 i (Nat.zero_le _) hi
  have h2 := asc_le h.2.2.1 i (N.length - 1) (by omega) (by omega)
  have h3 := h.2.2.2.1
  have h4 := h.2.2.2.2
  omega

set_option maxRecDepth 10000 in
set_option maxHeartbeats 1000000 in
theorem rise (a : Option Addr) (c : Nat) (N : List Int) (w : World) (h : Vw w a N) (hl : N.length ≤ 1000) :
    Calls Try.prog 30 #[.slice a N.length c] w fun e w' => ∃ b, e = .returned (.bool b) ∧ (b = true ↔ Rise N) ∧ New w w' := by
  by_cases h1 : 1 ≤ N.length
  · by_cases h3 : N.length ≤ 3
    · have HIS := Lib.hid (isSorted a c N w h hl)
      have HV := Lib.hid h
      obtain ⟨g, o, ha, hg, hcell⟩ := h.resolve_left (by intro e; simp [e] at h1)
      subst ha
      have HC := Lib.hid (And.intro hg (fun k hk => Vw.get hcell k hk))
      have HR : Hid (∀ x y, N.getD 0 0 = x → N.getD (N.length - 1) 0 = y → (Rise N ↔ (Asc N ∧ 0 ≤ x ∧ y ≤ 1099511627776))) := Lib.hid (fun x y hx hy => by
        unfold Rise
        rw [hx, hy]
        constructor
        · intro h; exact ⟨h.2.2.1, h.2.2.2.1, h.2.2.2.2⟩
        · intro h; exact ⟨h1, h3, h.1, h.2.1, h.2.2⟩)
      clear hcell hg
      obtain ⟨m, hm⟩ : ∃ m, N.length = m + 1 := ⟨N.length - 1, by omega⟩
      rw [hm] at HIS h3
      rw [hm]
      have HM := Lib.hid hm
      clear hm h1 hl
      have d1 : decide ((m : Int) + 1 < 1) = false := decide_eq_false (by omega)
      have d2 : decide (3 < (m : Int) + 1) = false := decide_eq_false (by omega)
      have i1 : (0 : Int) < (m : Int) + 1 := by omega
      go_enter Try.func30, Try.ntmps30
      go_wp2_with fail
      refine HIS.out.mono ?_
      rintro e w1 ⟨b, rfl, hb, n1⟩
      have HB := Lib.hid hb
      have HN := Lib.hid n1
      clear hb n1 HIS
      cases b
      · go_wp2
        go_ret
        exact ⟨false, rfl, ⟨fun h => by simp at h, fun h => HB.out.2 h.2.2.1⟩, HN.out⟩
      · have x0 := (HN.out.cell (a := ⟨g, o + 0, none⟩) HC.out.1 (fun h => h)).trans (HC.out.2 0 (by have := HM.out; omega))
        have x1 := (HN.out.cell (a := ⟨g, o + m, none⟩) HC.out.1 (fun h => h)).trans (HC.out.2 m (by have := HM.out; omega))
        rw [Nat.add_zero] at x0
        obtain ⟨fi, hfi⟩ : ∃ fi, N.getD 0 0 = fi := ⟨_, rfl⟩
        obtain ⟨la, hla⟩ : ∃ la, N.getD m 0 = la := ⟨_, rfl⟩
        rw [hfi] at x0
        rw [hla] at x1
        have HRR := Lib.hid (HR.out fi la hfi (by rw [HM.out]; exact hla))
        clear hfi hla
        by_cases hf : 0 ≤ fi
        · have d3 : decide ((0 : Int) ≤ fi) = true := decide_eq_true hf
          by_cases hl : la ≤ 1099511627776
          · have d4 : decide (la ≤ 1099511627776) = true := decide_eq_true hl
            go_wp2
            go_ret
            exact ⟨true, rfl, ⟨fun _ => HRR.out.2 ⟨HB.out.1 (by trivial), hf, hl⟩, fun _ => rfl⟩, HN.out⟩
          · have d4 : decide (la ≤ 1099511627776) = false := decide_eq_false hl
            go_wp2
            go_ret
            exact ⟨false, rfl, ⟨fun h => by simp at h, fun h => by have := (HRR.out.1 h).2.2; omega⟩, HN.out⟩
        · have d3 : decide ((0 : Int) ≤ fi) = false := decide_eq_false hf
          go_wp2
          go_ret
          exact ⟨false, rfl, ⟨fun h => by simp at h, fun h => by have := (HRR.out.1 h).2.1; omega⟩, HN.out⟩
    · have d1 : decide ((N.length : Int) < 1) = false := decide_eq_false (by omega)
      have d2 : decide (3 < (N.length : Int)) = true := decide_eq_true (by omega)
      have HNR : Hid (¬ Rise N) := Lib.hid (fun h => h3 h.2.1)
      clear h
      go_enter Try.func30, Try.ntmps30
      go_wp2
      go_ret
      exact ⟨false, rfl, ⟨fun h => by simp at h, fun h => absurd h HNR.out⟩, Turns.refl _ _⟩
  · have d1 : decide ((N.length : Int) < 1) = true := decide_eq_true (by omega)
    have HNR : Hid (¬ Rise N) := Lib.hid (fun h => h1 h.1)
    clear h
    go_enter Try.func30, Try.ntmps30
    go_wp2
    go_ret
    exact ⟨false, rfl, ⟨fun h => by simp at h, fun h => absurd h HNR.out⟩, Turns.refl _ _⟩

abbrev CT : TypeId := 25
abbrev Vc (a b c : Int) : Prop := 1 ≤ a ∧ a ≤ 1048576 ∧ 1 ≤ b ∧ b ≤ 1048576 ∧ 0 ≤ c ∧ c ≤ 100
abbrev cfg (a b c : Int) : Array Value := #[.int .i64 a, .int .i64 b, .int .i64 c]
theorem three {w : World} {p : Nat} {a b c : Value} {T : TypeId} (h : Blk w p #[a, b, c] T) : w.cell? ⟨p, 0, none⟩ = some a ∧ w.cell? ⟨p, 1, none⟩ = some b ∧ w.cell? ⟨p, 2, none⟩ = some c := ⟨h.cell 0, h.cell 1, h.cell 2⟩
set_option maxRecDepth 10000 in
set_option maxHeartbeats 1000000 in
theorem check (a b c : Int) (w : World) :
    Calls Try.prog 29 #[.agg (cfg a b c)] w fun e w' => ∃ k, e = .returned (.int .i64 k) ∧ ((Vc a b c ∧ k = 0) ∨ (¬ Vc a b c ∧ k = 5)) ∧ New w w' := by
  obtain ⟨c0, c1, c2⟩ := three (Blk.new w (cfg a b c) CT)
  have HN : Hid (New w (w.alloc (.cells (cfg a b c) CT))) := Lib.hid ((Turns.refl _ _).alloc _)
  by_cases h : Vc a b c
  · have HV := Lib.hid h
    obtain ⟨h1, h2, h3, h4, h5, h6⟩ := h
    have d1 : decide (a < 1) = false := decide_eq_false (by omega)
    have d2 : decide (1048576 < a) = false := decide_eq_false (by omega)
    have d3 : decide (b < 1) = false := decide_eq_false (by omega)
    have d4 : decide (1048576 < b) = false := decide_eq_false (by omega)
    have d5 : decide (c < 0) = false := decide_eq_false (by omega)
    have d6 : decide (100 < c) = false := decide_eq_false (by omega)
    clear h1 h2 h3 h4 h5 h6
    go_enter Try.func29, Try.ntmps29
    go_wp2
    go_ret
    exact ⟨0, rfl, .inl ⟨HV.out, rfl⟩, HN.out⟩
  · have HV := Lib.hid h
    have hc : a < 1 ∨ (¬ a < 1 ∧ 1048576 < a) ∨ (¬ a < 1 ∧ ¬ 1048576 < a ∧ b < 1) ∨ (¬ a < 1 ∧ ¬ 1048576 < a ∧ ¬ b < 1 ∧ 1048576 < b) ∨ (¬ a < 1 ∧ ¬ 1048576 < a ∧ ¬ b < 1 ∧ ¬ 1048576 < b ∧ c < 0) ∨ (¬ a < 1 ∧ ¬ 1048576 < a ∧ ¬ b < 1 ∧ ¬ 1048576 < b ∧ ¬ c < 0 ∧ 100 < c) := by
      unfold Vc at h; omega
    clear h
    rcases hc with h1 | ⟨h1, h2⟩ | ⟨h1, h2, h3⟩ | ⟨h1, h2, h3, h4⟩ | ⟨h1, h2, h3, h4, h5⟩ | ⟨h1, h2, h3, h4, h5, h6⟩
    all_goals
      try (have d1 : decide (a < 1) = false := decide_eq_false (by assumption))
      try (have d1 : decide (a < 1) = true := decide_eq_true (by assumption))
      try (have d2 : decide (1048576 < a) = false := decide_eq_false (by assumption))
      try (have d2 : decide (1048576 < a) = true := decide_eq_true (by assumption))
      try (have d3 : decide (b < 1) = false := decide_eq_false (by assumption))
      try (have d3 : decide (b < 1) = true := decide_eq_true (by assumption))
      try (have d4 : decide (1048576 < b) = false := decide_eq_false (by assumption))
      try (have d4 : decide (1048576 < b) = true := decide_eq_true (by assumption))
      try (have d5 : decide (c < 0) = false := decide_eq_false (by assumption))
      try (have d5 : decide (c < 0) = true := decide_eq_true (by assumption))
      try (have d6 : decide (100 < c) = true := decide_eq_true (by assumption))
      clear h1
      try clear h2
      try clear h3
      try clear h4
      try clear h5
      try clear h6
      go_enter Try.func29, Try.ntmps29
      go_wp2
      go_ret
      exact ⟨5, rfl, .inr ⟨HV.out, rfl⟩, HN.out⟩

/-- a ladder that was made here -/
structure Own (w w' : World) (p g c : Nat) (s : Q) : Prop where
  ls : Ls w' p g c s
  n : New w w'
  p0 : w.heap.size ≤ p
theorem Own.at_ {w w1 w2 : World} {p g c : Nat} {s t : Q} (h : Own w w1 p g c s) (k : At w1 w2 p g c t) : Own w w2 p g c t :=
  ⟨k.1, h.n.trans (k.2.mono (fun i _ hi => .inr (by have := h.p0; omega))), h.p0⟩
theorem Own.later {w w1 w2 : World} {p g c : Nat} {s : Q} (h : Own w w1 p g c s) (n : New w1 w2) : Own w w2 p g c s :=
  ⟨h.ls.later n, h.n.trans (n.mono (fun _ _ h => h.elim)), h.p0⟩
theorem Own.of_new {w w1 w2 : World} {p g c : Nat} {s : Q} (n : New w w1) (h : Own w1 w2 p g c s) : Own w w2 p g c s :=
  ⟨h.ls, n.trans (h.n.mono (fun _ _ h => h.elim)), Nat.le_trans n.size h.p0⟩
theorem Own.below {w w' : World} {p g c : Nat} {s : Q} (h : Own w w' p g c s) : Below w.heap.size w w' := h.n.below (Nat.le_refl _) (fun _ _ h => h.elim)
def fresh (a b c : Int) (N : List Int) (most : Int) : Q := ⟨a, b, c, N, limF N.length most, limF N.length most, 0, 0, 0⟩
theorem fresh_ok {a b c : Int} {N : List Int} (h : Vc a b c) (hr : Rise N) (most : Int) : (fresh a b c N most).ok := by
  obtain ⟨h1, h2, h3, h4, h5, h6⟩ := h
  exact ⟨hr.1, hr.2.1, hr.bd, limF_lt hr.1 most, limF_lt hr.1 most, h1, h2, h3, h4, h5, h6, Int.le_refl _, (by show (0 : Int) ≤ _; omega), Int.le_refl _, (by show (0 : Int) ≤ _; omega), Int.le_refl _, (by show (0 : Int) ≤ _; omega)⟩

set_option maxRecDepth 10000 in
set_option maxHeartbeats 1000000 in
theorem new_bad (a b c : Int) (most : Int) (ao : Option Addr) (cc : Nat) (N : List Int) (w : World) (hv : Vw w ao N) (hl : N.length ≤ 1000) (h : ¬ (Vc a b c ∧ Rise N)) :
    Calls Try.prog 11 #[.agg (cfg a b c), .int .i64 most, .slice ao N.length cc] w fun e w' => e = .returned (.tuple #[.pointer none, .int .i64 5]) ∧ New w w' := by
  have HN : Hid (New w (w.alloc (.cells (cfg a b c) CT))) := Lib.hid ((Turns.refl _ _).alloc _)
  obtain ⟨c0, c1, c2⟩ := three (Blk.new w (cfg a b c) CT)
  have HC := Lib.hid (check a b c (w.alloc (.cells (cfg a b c) CT)))
  have HR := Lib.hid (fun W (n : New w W) => rise ao cc N W (hv.later n) hl)
  have HH := Lib.hid h
  clear h hv
  go_enter Try.func11, Try.ntmps11
  go_wp2_with fail
  refine HC.out.mono ?_
  rintro e w1 ⟨k, rfl, hk, n1⟩
  have HN1 : Hid (New w w1) := Lib.hid (HN.out.trans (n1.mono (fun _ _ h => h.elim)))
  clear n1 c0 c1 c2 HN HC
  rcases hk with ⟨hv, rfl⟩ | ⟨hv, rfl⟩
  · have HRN : Hid (¬ Rise N) := Lib.hid (fun h => HH.out ⟨hv, h⟩)
    clear hv
    go_wp2_with fail
    refine (HR.out _ HN1.out).mono ?_
    rintro e w2 ⟨b', rfl, hb, n2⟩
    have HN2 : Hid (New w w2) := Lib.hid (HN1.out.trans (n2.mono (fun _ _ h => h.elim)))
    cases b'
    · clear hb n2
      go_wp2
      go_ret2
      exact ⟨rfl, HN2.out⟩
    · exact absurd (hb.1 rfl) HRN.out
  · clear hv
    go_wp2
    go_ret2
    exact ⟨rfl, HN1.out⟩
end Go.Proofs.Ytfhbcdjbfjoknaa.lad
