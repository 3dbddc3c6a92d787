/-
  rewrite.Out: Frame.
-/
import Derived.Test.YtijpgkkhjjpjoaaRewPack
import Derived.Test.YtijpgkkhjjpjoaaRowsG
namespace Go.Proofs.Ytijpgkkhjjpjoaa.rew
open Go.RowKit mem
set_option linter.unusedVariables false

abbrev UT : TypeId := 62
def UE : Enc U := ⟨7, fun u => u.cs, fun _ => rfl, fun u v hv => by
  simp only [U.cs, List.mem_cons, List.mem_nil_iff, or_false] at hv
  rcases hv with rfl | rfl | rfl | rfl | rfl | rfl | rfl <;> rfl⟩
def KE : Enc K := ⟨11, fun k => k.cs, fun _ => rfl, fun u v hv => by
  simp only [K.cs, List.mem_cons, List.mem_nil_iff, or_false] at hv
  rcases hv with rfl | rfl | rfl | rfl | rfl | rfl | rfl | rfl | rfl | rfl | rfl <;> rfl⟩
theorem infoK : (Try.prog.info? KT).map (fun i => (i.zero, i.size, i.bytes)) = some (some (.agg zeroK.toArray), 11, 88) := by kernel_rfl

/-- the packets of the units l, and the stream behind them -/
def packsO (o : O) : List U → O
  | [] => o
  | u :: l => packsO (packO o u) l
def packs (o : O) (t : Int) : List U → List K
  | [] => []
  | u :: l => packK o u t :: packs (packO o u) t l
theorem packsO_app (o : O) (l m : List U) : packsO o (l ++ m) = packsO (packsO o l) m := by
  induction l generalizing o with
  | nil => rfl
  | cons u l ih => exact ih _
theorem packs_app (o : O) (t : Int) (l m : List U) : packs o t (l ++ m) = packs o t l ++ packs (packsO o l) t m := by
  induction l generalizing o with
  | nil => rfl
  | cons u l ih => show packK o u t :: packs (packO o u) t (l ++ m) = packK o u t :: (packs (packO o u) t l ++ packs (packsO (packO o u) l) t m); rw [ih]
theorem packs_len (o : O) (t : Int) (l : List U) : (packs o t l).length = l.length := by
  induction l generalizing o with
  | nil => rfl
  | cons u l ih => show _ + 1 = _ + 1; rw [ih]

/-- bounds behind k units, of at most m bytes each -/
structure Bd (o : O) (f k : Nat) : Prop where
  q0 : 0 ≤ o.seq
  q1 : o.seq ≤ 65535
  p0 : -1 ≤ o.pic
  p1 : o.pic ≤ 32767
  l0 : -1 ≤ o.lev
  l1 : o.lev ≤ 255
  f0 : 0 ≤ o.fr
  f1 : o.fr ≤ f
  k0 : 0 ≤ o.pk
  k1 : o.pk ≤ k
  b0 : 0 ≤ o.by_
  b1 : o.by_ ≤ k * 2097152
theorem Bd.ok {o : O} {f k : Nat} (h : Bd o f k) (hf : f ≤ 1048576) (hk : k ≤ 1073741824) : o.ok := by
  obtain ⟨q0, q1, p0, p1, l0, l1, f0, f1, k0, k1, b0, b1⟩ := h
  exact ⟨q0, q1, p0, p1, l0, l1, f0, by omega, k0, by omega, b0, by omega⟩
theorem w16 (n : Int) : IntKind.u16.wrap n = n % 65536 := by simp [IntKind.wrap, IntKind.bits, IntKind.signed]
theorem Bd.pack {o : O} {f k : Nat} (h : Bd o f k) (u : U) (hu : u.x.size ≤ 1048576) : Bd (packO o u) f (k + 1) := by
  obtain ⟨q0, q1, p0, p1, l0, l1, f0, f1, k0, k1, b0, b1⟩ := h
  have := pay_size o u.x
  refine ⟨?_, ?_, p0, p1, l0, l1, f0, f1, by show 0 ≤ o.pk + 1; omega, by show o.pk + 1 ≤ _; omega, by show 0 ≤ o.by_ + _; omega, by show o.by_ + _ ≤ _; omega⟩
  · show 0 ≤ IntKind.u16.wrap (o.seq + 1); rw [w16]; omega
  · show IntKind.u16.wrap (o.seq + 1) ≤ 65535; rw [w16]; omega
theorem Bd.packs {o : O} {f k : Nat} (h : Bd o f k) (l : List U) (hl : ∀ u ∈ l, u.x.size ≤ 1048576) : Bd (packsO o l) f (k + l.length) := by
  induction l generalizing o k with
  | nil => exact h
  | cons u l ih =>
    have := ih (h.pack u (hl u (by simp))) (fun v hv => hl v (by simp [hv]))
    rw [List.length_cons, show k + (l.length + 1) = k + 1 + l.length by omega]
    exact this
theorem Bd.time {o : O} {f k : Nat} (h : Bd o f k) (s a : Int) : Bd (timeO o s a) f k := by
  unfold timeO
  split
  · exact ⟨h.q0, h.q1, h.p0, h.p1, h.l0, h.l1, h.f0, h.f1, h.k0, h.k1, h.b0, h.b1⟩
  · split <;> exact ⟨h.q0, h.q1, h.p0, h.p1, h.l0, h.l1, h.f0, h.f1, h.k0, h.k1, h.b0, h.b1⟩
theorem Bd.count {o : O} {f k : Nat} (h : Bd o f k) (s : ByteArray) : Bd (countO o s) f k := by
  obtain ⟨q0, q1, p0, p1, l0, l1, f0, f1, k0, k1, b0, b1⟩ := h
  unfold countO levO
  split
  · exact ⟨q0, q1, by show -1 ≤ (o.pic + 1) % 32768; omega, by show (o.pic + 1) % 32768 ≤ _; omega, by show -1 ≤ (o.lev + 1) % 256; omega, by show (o.lev + 1) % 256 ≤ _; omega, f0, f1, k0, k1, b0, b1⟩
  · exact ⟨q0, q1, by show -1 ≤ (o.pic + 1) % 32768; omega, by show (o.pic + 1) % 32768 ≤ _; omega, l0, l1, f0, f1, k0, k1, b0, b1⟩

def midO (o : O) (s : Int) (u : U) : O := if o.v = true then countO (timeO o s u.t) u.x else timeO o s u.t
def frameO (o : O) (s : Int) : List U → O
  | [] => o
  | u :: l => { (packsO (midO o s u) (u :: l)) with fr := o.fr + 1 }
def frameK (o : O) (s : Int) : List U → List K
  | [] => []
  | u :: l => packs (midO o s u) (timeV o s u.t) (u :: l)

def headT : List U → Int
  | [] => 0
  | u :: _ => u.t
/-- Frame.Time -/
theorem ftime (a : Option Addr) (c : Nat) (l : List U) (w : World) (hl : l.length ≤ 1048576) (hr : Reads UE w a l) :
    Calls Try.prog 24 #[.agg #[.slice a l.length c]] w fun e w' => e = .returned (.int .i64 (headT l)) ∧ New w w' := by
  cases l with
  | nil =>
    go_enter Try.func24, Try.ntmps24
    go_wp2
    go_ret
    exact ⟨rfl, (Turns.refl _ _).alloc _⟩
  | cons u l =>
    rcases hr with h | ⟨g, rfl, hg, hc⟩
    · cases h
    have c1 : w.cell? ⟨g, 1, none⟩ = some (.int .i64 u.t) := by have := hc 0 u rfl 1 _ rfl; simpa using this
    clear hc
    simp only [List.length_cons, headT] at hl ⊢
    have hne : ((((l.length + 1 : Nat) : Int)) == 0) = false := by simp; omega
    go_enter Try.func24, Try.ntmps24
    go_wp2
    go_ret
    exact ⟨rfl, (Turns.refl _ _).alloc _⟩

theorem take_next {α : Type} (l : List α) (k : Nat) (h : k < l.length) : ∃ u, l[k]? = some u ∧ l.take (k + 1) = l.take k ++ [u] := by
  refine ⟨l[k], List.getElem?_eq_getElem h, ?_⟩
  rw [List.take_add_one, List.getElem?_eq_getElem h]; rfl

/-- what the loop over the units holds -/
structure Lp (w wr : World) (p : Nat) (o : O) (t : Int) (L : List U) (k : Nat) (v : Value) : Prop where
  s : Ot wr p (packsO o (L.take k))
  r : Owns KE KT wr v (packs o t (L.take k))
  b : ∀ g, v.ownBlock = some g → w.heap.size ≤ g
  n : Turns (· = p) w wr

def Res (w : World) (p : Nat) (o : O) (L : List K) (e : Ending) (w' : World) : Prop :=
  ∃ v, e = .returned v ∧ Owns KE KT w' v L ∧ (∀ g, v.ownBlock = some g → w.heap.size ≤ g) ∧ At w w' p o

theorem Lp.next {w wr w6 w7 w8 : World} {p j : Nat} {o q : O} {t : Int} {L : List U} {v v' : Value} {pk : List K} {u : U} {C1 C2 : Array Value} {T1 T2 : TypeId} (hp : p < w.heap.size)
    (hs : Ot wr p q) (hr : Owns KE KT wr v pk) (hb : ∀ g, v.ownBlock = some g → w.heap.size ≤ g) (hn : Turns (· = p) w wr) (h6 : At (wr.alloc (.cells C1 T1)) w6 p (packO q u)) (h7 : w7 = w6.alloc (.cells C2 T2))
    (hX : packsO o (L.take (j + 1)) = packO q u ∧ packs o t (L.take (j + 1)) = pk ++ [packK q u t]) (hown : Owns KE KT w8 v' (pk ++ [packK q u t])) (hg : w7.grownBy w8 v.ownBlock) (hat : v'.ownBlock = v.ownBlock ∨ v'.ownBlock = some w7.heap.size) :
    Lp w w8 p o t L (j + 1) v' := by
  subst h7
  have t6 : Turns (· = p) wr w6 := (((Turns.refl _ _).alloc _).mono (fun _ _ h => h)).trans (h6.2.mono (fun _ _ h => .inl h))
  have t7 : Turns (· = p) wr (w6.alloc (.cells C2 T2)) := t6.alloc _
  have h8 := Turns.of_grown hg
  have hnp : ¬ some p = v.ownBlock := fun e => by have := hb p e.symm; omega
  refine ⟨?_, ?_, ?_, ?_⟩
  · rw [hX.1]; exact (h6.1.alloc _).turns h8 hnp
  · rw [hX.2]; exact hown
  · intro g hg'
    rcases hat with h | h
    · exact hb g (h ▸ hg')
    · rw [h] at hg'; injection hg' with hg'; subst hg'
      exact Nat.le_trans hn.size t7.size
  · exact hn.trans ((t7.mono (fun _ _ h => .inl h)).trans (h8.mono (fun k _ hk => .inl (.inr (hb k hk.symm)))))
theorem Lp.own {wr w5 w6 w7 : World} {p : Nat} {q : O} {v : Value} {pk : List K} (hr : Owns KE KT wr v pk) (hnp : ¬ some p = v.ownBlock) (h6 : At w5 w6 p q) (C1 C2 : Array Value) (T1 T2 : TypeId) (h5 : w5 = wr.alloc (.cells C1 T1)) (h7 : w7 = w6.alloc (.cells C2 T2)) : Owns KE KT w7 v pk := by
  subst h5 h7
  have t6 : Turns (· = p) wr w6 := (((Turns.refl _ _).alloc _).mono (fun _ _ h => h)).trans (h6.2.mono (fun _ _ h => .inl h))
  exact hr.turns (t6.alloc _) (fun g hg e => hnp (by rw [hg, e]))

set_option maxHeartbeats 1000000 in
theorem frame (p : Nat) (o : O) (s : Int) (a : Option Addr) (c : Nat) (l : List U) (f k : Nat) (w : World) (h : Ot w p o) (hb : Bd o f k) (hf : f ≤ 1000) (hk : k ≤ 1000000) (hl : l.length ≤ 1000) (hx : ∀ u ∈ l, u.x.size ≤ 1048576)
    (hr : Reads UE w a l) (hne : ∀ g, a = some ⟨g, 0, none⟩ → g ≠ p) :
    Calls Try.prog 11 #[.pointer (some ⟨p, 0, none⟩), .int .i64 s, .agg #[.slice a l.length c]] w (Res w p (frameO o s l) (frameK o s l)) := by
  cases l with
  | nil =>
    have hend : Res w p o [] (.returned (.slice none 0 0)) (w.alloc (.cells #[.slice a 0 c] 36)) := ⟨_, rfl, Owns.nil _ _, (fun g hg => by cases hg), h.alloc _, (Turns.refl _ _).alloc _⟩
    have HE := Lib.hid hend
    clear hend
    simp only [List.length_nil]
    go_enter Try.func11, Try.ntmps11
    go_wp2
    go_ret
    exact HE.out
  | cons u0 l0 =>
    obtain ⟨g, ha, hg, hc⟩ : ∃ g, a = some ⟨g, 0, none⟩ ∧ g < w.heap.size ∧ ∀ (k : Nat) (u : U), (u0 :: l0)[k]? = some u → ∀ (j : Nat) (x : Value), (UE.cs u)[j]? = some x → w.cell? ⟨g, k * 7 + j, none⟩ = some x := by
      rcases hr with h | h
      · cases h
      · exact h
    subst ha
    have hgp := hne g rfl
    have HR : Hid (∀ w', Turns (· = p) w w' → Reads UE w' (some ⟨g, 0, none⟩) (u0 :: l0)) := Lib.hid (fun w' ht => hr.turns ht hne)
    have c05 : w.cell? ⟨g, 5, none⟩ = some (.string u0.x) := by have := hc 0 u0 rfl 5 _ rfl; simpa using this
    have hB2 : Bd (midO o s u0) f k := by unfold midO; split; exact (hb.time _ _).count _; exact hb.time _ _
    have HTM := Lib.hid (fun w h => time_ p o s u0.t w h)
    have hok1 : (timeO o s u0.t).ok := (hb.time s u0.t).ok (by omega) (by omega)
    have HCN := Lib.hid (fun w h => count p (timeO o s u0.t) u0.x w h hok1 (hx u0 (by simp)))
    have HV : Hid (midO o s u0 = if o.v = true then countO (timeO o s u0.t) u0.x else timeO o s u0.t) := Lib.hid rfl
    have hv1 : (timeO o s u0.t).v = o.v := by unfold timeO; split; rfl; split <;> rfl
    have HFO : Hid (frameO o s (u0 :: l0) = { (packsO (midO o s u0) (u0 :: l0)) with fr := o.fr + 1 } ∧ frameK o s (u0 :: l0) = packs (midO o s u0) (timeV o s u0.t) (u0 :: l0)) := Lib.hid ⟨rfl, rfl⟩
    rw [HFO.out.1, HFO.out.2]
    clear HFO
    have hlen : (u0 :: l0).length = l0.length + 1 := rfl
    have HPK : Hid (∀ j, j < (u0 :: l0).length → ∀ u, (u0 :: l0)[j]? = some u → ∀ w', Ot w' p (packsO (midO o s u0) ((u0 :: l0).take j)) → _) :=
      Lib.hid (fun j hj u hu w' hw' => packet p (packsO (midO o s u0) ((u0 :: l0).take j)) u (timeV o s u0.t) w' hw'
        ((hB2.packs ((u0 :: l0).take j) (fun v hv => hx v (List.mem_of_mem_take hv))).ok (by omega) (by rw [List.length_take]; omega)) (hx u (List.mem_of_getElem? hu)))
    have hfr : ∀ j, (packsO (midO o s u0) ((u0 :: l0).take j)).fr = o.fr := by
      have e : ∀ (l : List U) (q : O), (packsO q l).fr = q.fr := fun l => by induction l with
        | nil => exact fun _ => rfl
        | cons u l ih => exact fun q => ih _
      intro j; rw [e]; unfold midO timeO countO levO; repeat (first | rfl | split)
    have HFR := Lib.hid hfr
    have HFT := Lib.hid (fun w h => ftime (some ⟨g, 0, none⟩) c (u0 :: l0) w (by omega) h)
    have hfb := And.intro hb.f0 hb.f1
    clear hfr hb hok1 hx hr hne
    generalize timeO o s u0.t = o1 at *
    generalize hmid : midO o s u0 = o2 at *
    generalize timeV o s u0.t = t at *
    clear hmid
    generalize hL : u0 :: l0 = L at *
    have hd : headT L = u0.t := by rw [← hL]; rfl
    rw [hd] at HFT
    have hLn : L.length ≠ 0 := by rw [← hL]; simp
    have hne0 : (((L.length : Nat) : Int) == 0) = false := beq_eq_false_iff_ne.2 (by omega)
    have HLL := Lib.hid hL
    clear hL hd hlen
    generalize hn : L.length = n at *
    have HNN := Lib.hid hn
    clear hn
    have hfp : w.heap.size ≠ p := by have := h.lt; omega
    have hbf : Blk (w.alloc (.cells #[.slice (some ⟨g, 0, none⟩) n c] 36)) w.heap.size #[.slice (some ⟨g, 0, none⟩) n c] 36 := Blk.new _ _ _
    have h1 := h.alloc (.cells #[.slice (some ⟨g, 0, none⟩) n c] 36)
    have n1 : New w (w.alloc (.cells #[.slice (some ⟨g, 0, none⟩) n c] 36)) := (Turns.refl _ _).alloc _
    have HH := Lib.hid (And.intro h1 (And.intro n1 hbf))
    have HW := Lib.hid hg
    have HHW : Hid (Ot w p o) := Lib.hid h
    clear h1 n1 hbf h c05 hg
    go_enter Try.func11, Try.ntmps11
    go_wp2_with fail
    obtain ⟨h1, n1, hbf⟩ := HH.out
    refine (HFT.out _ (HR.out _ (n1.mono (fun _ _ h => h.elim)))).mono ?_
    rintro e w2 ⟨rfl, n2⟩
    have h2 := h1.turns n2 (fun h => h)
    have b2 := n2.blk hbf (fun h => h)
    have N2 := Lib.hid (n1.trans (n2.mono (fun _ _ h => h.elim)))
    clear HH h1 n1 hbf n2
    generalize w.heap.size = pf at *
    go_wp2_with fail
    refine (HTM.out _ h2).mono ?_
    rintro e w3 ⟨rfl, h3⟩
    have b3 := h3.2.blk b2 hfp
    have A3 := Lib.hid (at_pre N2.out h3)
    have kf : w3.cell? ⟨pf, 0, none⟩ = some (.slice (some ⟨g, 0, none⟩) n c) := b3.cell 0
    have kv := h3.1.c0
    have B3 := Lib.hid b3
    rw [hv1] at kv
    clear h2 b2 N2 h3 b3 HTM HFT hv1
    go_upto_if 23 with fail
    go_cut [] (fun wx => At w wx p o2 ∧ Blk wx pf #[.slice (some ⟨g, 0, none⟩) n c] 36)
    case first =>
      clear HPK HFR
      by_cases hv : o.v = true
      · have hV := HV.out
        rw [if_pos hv] at hV
        subst hV
        rw [hv] at kv ⊢
        have k5 : w3.cell? ⟨g, 5, none⟩ = some (.string u0.x) := by
          rcases HR.out w3 A3.out.2 with hx | ⟨g', hg', _, hc'⟩
          · rw [← HLL.out] at hx; cases hx
          · injection hg' with hg'; injection hg' with hg' _ _; subst hg'
            have := hc' 0 u0 (by rw [← HLL.out]; rfl) 5 _ rfl
            simpa using this
        clear hc HR
        have hn0 : (0 : Int) < (n : Int) := by omega
        go_wp2_with fail
        refine (HCN.out _ A3.out.1).mono ?_
        rintro e w4 ⟨rfl, h4⟩
        go_wp2_with fail
        go_meet
        case rel => exact ⟨at_trans A3.out h4, h4.2.blk B3.out hfp⟩
      · have hV := HV.out
        rw [if_neg hv] at hV
        subst hV
        have hv' : o.v = false := by simpa using hv
        rw [hv'] at kv ⊢
        go_wp2_with fail
        go_meet
        case rel => exact ⟨A3.out, B3.out⟩
    case rest =>
      obtain ⟨h4, b4⟩ := hcut
      have kf4 : wc.cell? ⟨pf, 0, none⟩ = some (.slice (some ⟨g, 0, none⟩) n c) := b4.cell 0
      have H4 := Lib.hid h4
      clear h4 b4 kf kv A3 B3 HCN HV
      have HLP0 : Hid (Lp w wc p o2 t L 0 (.slice none 0 0)) := Lib.hid ⟨H4.out.1, Owns.nil _ _, (fun g hg => by cases hg), H4.out.2⟩
      clear hc hLn hne0 H4
      go_wp2_with fail
      go_loopw [8, 34] (fun v i wr => ∃ k : Nat, k ≤ n ∧ i = .int .i64 k ∧ Lp w wr p o2 t L k v) (fun _ i _ => n - (intOf i).toNat)
      case atStart => exact ⟨0, Nat.zero_le _, rfl, HLP0.out⟩
      case round =>
        obtain ⟨j, hj, rfl, hlp⟩ := hrel
        clear HLP0
        by_cases hlt : j < n
        · obtain ⟨u, hu, htk⟩ := take_next L j (by rw [HNN.out]; exact hlt)
          have hrd := HR.out _ hlp.n
          rcases hrd with hx | ⟨g', hg', hgl, hc'⟩
          · exfalso
            have h1 := HNN.out
            rw [hx] at h1
            simp at h1
            omega
          injection hg' with hg'
          injection hg' with hg' _ _
          subst hg'
          have hcu := hc' j u hu
          clear hc'
          have e0 : wr.cell? ⟨g, j * 7, none⟩ = some (.int .i64 u.a) := hcu 0 _ rfl
          have e1 : wr.cell? ⟨g, j * 7 + 1, none⟩ = some (.int .i64 u.t) := hcu 1 _ rfl
          have e2 : wr.cell? ⟨g, j * 7 + 2, none⟩ = some (.bool u.mr) := hcu 2 _ rfl
          have e3 : wr.cell? ⟨g, j * 7 + 3, none⟩ = some (.bool u.st) := hcu 3 _ rfl
          have e4 : wr.cell? ⟨g, j * 7 + 4, none⟩ = some (.bool u.ky) := hcu 4 _ rfl
          have e5 : wr.cell? ⟨g, j * 7 + 5, none⟩ = some (.string u.x) := hcu 5 _ rfl
          have e6 : wr.cell? ⟨g, j * 7 + 6, none⟩ = some (.int .i64 u.tick) := hcu 6 _ rfl
          clear hcu
          obtain ⟨hs, hr, hb, hnw⟩ := hlp
          have HP := Lib.hid (HPK.out j hlt u hu)
          have hnext : packsO o2 (L.take (j + 1)) = packO (packsO o2 (L.take j)) u := by rw [htk, packsO_app]; rfl
          have hnextK : packs o2 t (L.take (j + 1)) = packs o2 t (L.take j) ++ [packK (packsO o2 (L.take j)) u t] := by rw [htk, packs_app]; rfl
          have hlenK : (packs o2 t (L.take j)).length = j := by rw [packs_len, List.length_take, HNN.out]; omega
          have HX := Lib.hid (And.intro hnext (And.intro hnextK hlenK))
          have HS := Lib.hid hs
          have HRW := Lib.hid hr
          have HB := Lib.hid (And.intro hb hnw)
          clear hs hr hb hnw hnext hnextK hlenK htk
          have kn : (j : Int) < (n : Int) := by omega
          have k0 : (0 : Int) ≤ (j : Int) := by omega
          generalize packsO o2 (L.take j) = q at *
          generalize packs o2 t (L.take j) = pk at *
          go_upto_region 10 with fail
          have h5 := HS.out.alloc (.cells #[.int .i64 u.a, .int .i64 u.t, .bool u.mr, .bool u.st, .bool u.ky, .string u.x, .int .i64 u.tick] UT)
          have hnp : ¬ some p = u8.ownBlock := fun e => by have := HB.out.1 p e.symm; have := HHW.out.lt; omega
          go_wp2_with fail
          refine (HP.out _ h5).mono ?_
          rintro e w6 ⟨rfl, h6⟩
          clear e0 e1 e2 e3 e4 e5 e6 h5
          have hpk1 : pk.length + 1 ≤ 1048576 := by rw [HX.out.2.2]; omega
          have hown7 := Lp.own HRW.out hnp h6 _ (packK q u t).cs.toArray UT KT rfl rfl
          have NX := Lib.hid (fun v' w8 a b c => Lp.next (t := t) (C2 := (packK q u t).cs.toArray) (T2 := KT) (w8 := w8) (v' := v') HHW.out.lt HS.out HRW.out HB.out.1 HB.out.2 h6 rfl ⟨HX.out.1, HX.out.2.1⟩ a b c)
          have hbl : (w6.alloc (.cells (KE.cs (packK q u t)).toArray KT)).heap[w6.heap.size]? = some (.cells (KE.cs (packK q u t)).toArray KT (0, 0)) := heap_alloc_new w6 _
          have HBL := Lib.hid hbl
          have HOW := Lib.hid hown7
          clear hbl hown7
          go_wp2_with (at_builtin; refine wpList_append_one (E := KE) Try.underlying40 infoK rfl (by decide) (by decide) rfl _ _ rfl _ pk (packK q u t) rfl HOW.out _ rfl HBL.out hpk1 ?_)
          intro v' w8 hown hgrow hat
          have HL := Lib.hid (NX.out v' w8 hown hgrow (by rcases hat with h | h; exact .inl h; exact .inr (by rw [h, World.size_alloc])))
          clear NX HBL HOW hown hgrow hat
          go_wp2
          go_roundw
          case rel => exact ⟨j + 1, by omega, by go_num, HL.out⟩
          case measure => simp [intOf]; omega
        · have hjn : j = n := by omega
          subst hjn
          obtain ⟨hs, hr, hb, hnw⟩ := hlp
          have htake : L.take j = L := by rw [← HNN.out]; exact List.take_length
          rw [htake] at hs hr
          have c9 := hs.c9
          have f9 := hs.f 9
          have hfe : (packsO o2 L).fr = o.fr := by have := HFR.out j; rwa [htake] at this
          rw [hfe] at c9
          have hend : ∀ w', w' = wr.setCell ⟨p, 9, none⟩ (.int .i64 (o.fr + 1)) → Res w p { (packsO o2 L) with fr := o.fr + 1 } (packs o2 t L) (.returned u8) w' := by
            rintro w' rfl
            exact ⟨_, rfl, hr.turns ((Turns.refl (· = p) wr).setCell (.inl rfl) _) (fun g hg e => by have := hb g hg; have := HHW.out.lt; omega), hb, hs.s9 _, hnw.setCell (.inl rfl) _⟩
          have HE := Lib.hid hend
          clear hend hs hr hb hnw htake hfe
          generalize o.fr = fr at *
          go_wp2
          go_ret
          exact HE.out _ rfl
end Go.Proofs.Ytijpgkkhjjpjoaa.rew
