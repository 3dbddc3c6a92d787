/-
  The reference of layer 21: Due, Tick, Want.
-/
import Derived.Test.YtjiodpbgjhoakaaPliAwake
import Derived.Test.YtjiodpbgjhoakaaIntRows
import Derived.Test.YtjiodpbgjhoakaaPuts
import Derived.ChangeAlike
namespace Go.Proofs.Ytjiodpbgjhoakaa.pli
open Go.RowKit mem
open ints (IE IT ST infoI)
set_option linter.unusedVariables false

structure RA where
  first : Int
  most : Int
  wanted : Bool
  L : List Int
  sent : Int
abbrev RT : TypeId := 32
abbrev rcs (a : RA) (v : Value) : Array Value := #[.int .i64 a.first, .int .i64 a.most, .bool a.wanted, v, .int .i64 a.sent]
def waitF (f m : Int) : Nat → Int
  | 0 => f
  | n + 1 => min (2 * waitF f m n) m
theorem waitF_bd {f m : Int} (f0 : 1 ≤ f) (fm : f ≤ m) (n : Nat) : 1 ≤ waitF f m n ∧ waitF f m n ≤ m := by
  induction n with
  | zero => exact ⟨f0, fm⟩
  | succ n ih => simp only [waitF]; omega
def dueF (a : RA) : Int := a.L.getLastD 0 + waitF a.first a.most (a.L.length - 1)
structure RA.ok (a : RA) : Prop where
  f0 : 1 ≤ a.first
  fm : a.first ≤ a.most
  m1 : a.most ≤ 1073741824
  ln : a.L.length ≤ 1000
  bd : ∀ x ∈ a.L, 0 ≤ x ∧ x ≤ 4398046511104
  s0 : 0 ≤ a.sent
  s1 : a.sent ≤ 1048576
theorem five {w : World} {p : Nat} {a b c d e : Value} {T : TypeId} (h : Blk w p #[a, b, c, d, e] T) :
    w.cell? ⟨p, 0, none⟩ = some a ∧ w.cell? ⟨p, 1, none⟩ = some b ∧ w.cell? ⟨p, 2, none⟩ = some c ∧ w.cell? ⟨p, 3, none⟩ = some d ∧ w.cell? ⟨p, 4, none⟩ = some e := ⟨h.cell 0, h.cell 1, h.cell 2, h.cell 3, h.cell 4⟩

theorem frees {w : World} {p : Nat} {cs : Array Value} {T : TypeId} (h : Blk w p cs T) : w.frozen? ⟨p, 0, none⟩ = false ∧ w.frozen? ⟨p, 1, none⟩ = false ∧ w.frozen? ⟨p, 2, none⟩ = false ∧ w.frozen? ⟨p, 3, none⟩ = false ∧ w.frozen? ⟨p, 4, none⟩ = false := ⟨h.free 0, h.free 1, h.free 2, h.free 3, h.free 4⟩
theorem last_eq {l : List Int} {m : Nat} (h : l.length = m + 1) : l.getLastD 0 = l[m] := by
  have hne : l ≠ [] := by intro e; simp [e] at h
  rw [List.getLastD_eq_getLast?, List.getLast?_eq_some_getLast hne, Option.getD_some, List.getLast_eq_getElem]
  congr 1
  omega

set_option maxHeartbeats 1000000 in
theorem rdue (a : RA) (v : Value) (w : World) (h : Sub IE 0 w v a.L) (hl : a.L ≠ []) (ho : a.ok) :
    Calls Try.prog 24 #[.agg (rcs a v)] w fun e w' => e = .returned (.int .i64 (dueF a)) ∧ New w w' := by
  obtain ⟨g, o, c, hv, hc, hcm, hg, hcell⟩ := ints.Sub.at_ h hl
  obtain ⟨m, hm⟩ : ∃ m, a.L.length = m + 1 := ⟨a.L.length - 1, by have := List.length_pos_iff.2 hl; omega⟩
  have hx := hcell m (by omega)
  have hxb := ho.bd _ (List.getElem_mem (l := a.L) (n := m) (by omega))
  have HD : Hid (dueF a = a.L[m] + waitF a.first a.most m) := Lib.hid (by unfold dueF; rw [last_eq hm, show a.L.length - 1 = m by omega])
  have hln := ho.ln
  rw [HD.out]
  rw [hm] at hv hc hln
  subst hv
  have HW := Lib.hid (fun n => waitF_bd ho.f0 ho.fm n)
  have m1 := ho.m1
  clear h hl ho hcell HD
  generalize a.L[m] = last at *
  obtain ⟨first, most, wanted, L, sent⟩ := a
  dsimp only [rcs] at *
  clear hm L
  obtain ⟨x0, x1⟩ := hxb
  have hmm : m + 1 ≤ maxLen := by unfold maxLen; omega
  have hcm' : c ≤ 9223372036854775807 := by unfold maxLen at hcm; omega
  have HB : Hid (Blk (w.alloc (.cells #[.int .i64 first, .int .i64 most, .bool wanted, .slice (some ⟨g, o, none⟩) (m + 1) c, .int .i64 sent] RT)) w.heap.size #[.int .i64 first, .int .i64 most, .bool wanted, .slice (some ⟨g, o, none⟩) (m + 1) c, .int .i64 sent] RT) := Lib.hid (Blk.new _ _ _)
  have hx1 : (w.alloc (.cells #[.int .i64 first, .int .i64 most, .bool wanted, .slice (some ⟨g, o, none⟩) (m + 1) c, .int .i64 sent] RT)).cell? ⟨g, o + m, none⟩ = some (.int .i64 last) := (((Turns.refl (fun _ => False) w).alloc _).cell (a := ⟨g, o + m, none⟩) hg (fun h => h)).trans hx
  have HN : Hid (New w (w.alloc (.cells #[.int .i64 first, .int .i64 most, .bool wanted, .slice (some ⟨g, o, none⟩) (m + 1) c, .int .i64 sent] RT))) := Lib.hid ((Turns.refl _ _).alloc _)
  clear hx hg
  go_enter Try.func24, Try.ntmps24
  go_upto_region 1 with fail
  refine (show Code.wp _ _ _ _ (w.alloc (.cells #[.int .i64 first, .int .i64 most, .bool wanted, .slice (some ⟨g, o, none⟩) (m + 1) c, .int .i64 sent] RT)) from ?_)
  generalize (w.alloc (.cells #[.int .i64 first, .int .i64 most, .bool wanted, .slice (some ⟨g, o, none⟩) (m + 1) c, .int .i64 sent] RT)) = w1 at *
  generalize w.heap.size = pb at *
  obtain ⟨c0, c1, c2, c3, c4⟩ := five HB.out
  clear c2 c4
  go_wp2_with fail
  go_loopw [3, 4] (fun wa i wr => ∃ k : Nat, k ≤ m ∧ wa = .int .i64 (waitF first most k) ∧ i = .int .i64 (k + 1 : Nat) ∧ wr = w1) (fun _ i _ => m + 1 - (intOf i).toNat)
  case atStart => exact ⟨0, by omega, rfl, rfl, rfl⟩
  case round =>
    obtain ⟨k, hk, rfl, rfl, rfl⟩ := hrel
    by_cases hgo : k < m
    · have d1 : decide (((k + 1 : Nat) : Int) < ((m + 1 : Nat) : Int)) = true := decide_eq_true (by omega)
      obtain ⟨w0, w1⟩ := HW.out k
      have HS : Hid (waitF first most (k + 1) = min (2 * waitF first most k) most) := Lib.hid rfl
      generalize waitF first most k = wt at *
      have hmn : (if most < 2 * wt then most else 2 * wt) = min (2 * wt) most := by omega
      generalize min (2 * wt) most = mn at *
      go_wp2_with fail
      go_roundw
      case rel => exact ⟨k + 1, by omega, by rw [HS.out], by go_num, by trivial⟩
      case measure => simp [intOf]; omega
    · obtain rfl : k = m := by omega
      have d1 : decide (((k + 1 : Nat) : Int) < ((k + 1 : Nat) : Int)) = false := decide_eq_false (by omega)
      obtain ⟨w0, w1⟩ := HW.out k
      generalize hwt : waitF first most k = wt at *
      have HWT := Lib.hid hwt
      clear hwt
      go_wp2
      go_ret
      exact ⟨by rw [HWT.out]; rfl, HN.out⟩

def rtickB (a : RA) (now : Int) : Bool := a.wanted && !decide (now < dueF a)
def rtickA (a : RA) (now : Int) : RA := if rtickB a now = true then { a with L := a.L ++ [now], sent := a.sent + 1 } else a
def rwantB (a : RA) (on : Bool) (now : Int) : Bool := on && (!a.wanted || rtickB a now)
def rwantA (a : RA) (on : Bool) (now : Int) : RA :=
  if on = true then (if a.wanted = true then rtickA a now else { a with wanted := true, L := [now], sent := a.sent + 1 }) else { a with wanted := false, L := [] }
/-- what the reference hands back: its requests in v' -/
structure RPost (w w' : World) (v v' : Value) (L : List Int) : Prop where
  sub : Sub IE 0 w' v' L
  src : ∀ g, v'.ownBlock = some g → v.ownBlock = some g ∨ w.heap.size ≤ g
  n : New w w'
theorem Sub.new {w w' : World} {v : Value} {l : List Int} (h : Sub IE 0 w v l) (n : New w w') : Sub IE 0 w' v l := Sub.turns h n (fun _ _ h => h)

/-- what is stored into the result's block -/
theorem fin_ {w w3 : World} {v vk : Value} {pr : Nat} {l vs : List Value} {L : List Int} {wp : Nat} (hw : w.heap.size ≤ pr) (n : New w w3) (hr : Blk w3 pr l.toArray RT) (hl : vs.length = l.length) (h : Sub IE 0 w3 vk L) (hsrc : ∀ g, vk.ownBlock = some g → (v.ownBlock = some g ∨ w.heap.size ≤ g) ∧ g ≠ pr) :
    Blk (puts w3 pr 0 vs) pr vs.toArray RT ∧ RPost w (puts w3 pr 0 vs) v vk L := by
  have ht := puts_turns (S := (· = pr)) (p := pr) (.inl rfl) vs 0 _ (Turns.refl (· = pr) w3)
  exact ⟨puts_blk _ _ hr hl, Sub.turns' h ht (fun g hg => (hsrc g hg).2), fun g hg => (hsrc g hg).1, n.trans (ht.mono (fun i _ hi => .inr (by omega)))⟩

set_option maxHeartbeats 1000000 in
theorem rtick (a : RA) (v : Value) (now : Int) (w : World) (h : Sub IE 0 w v a.L) (hl : a.wanted = true → a.L ≠ []) (ho : a.ok) (n0 : 0 ≤ now) (n1 : now ≤ 4398046511104) :
    Calls Try.prog 20 #[.agg (rcs a v), .int .i64 now] w fun e w' => ∃ v', e = .returned (.tuple #[.agg (rcs (rtickA a now) v'), .bool (rtickB a now)]) ∧ RPost w w' v v' (rtickA a now).L := by
  have hw0 : New w ((w.alloc (.cells (rcs a v) RT)).alloc (.cells #[.int .i64 0, .int .i64 0, .bool false, .slice none 0 0, .int .i64 0] RT)) := ((Turns.refl _ _).alloc _).alloc _
  have e1 : (w.alloc (.cells (rcs a v) RT)).heap.size = w.heap.size + 1 := by simp
  have hb1 : Blk ((w.alloc (.cells (rcs a v) RT)).alloc (.cells #[.int .i64 0, .int .i64 0, .bool false, .slice none 0 0, .int .i64 0] RT)) w.heap.size (rcs a v) RT := (Blk.new _ _ _).alloc _
  have hr1 : Blk ((w.alloc (.cells (rcs a v) RT)).alloc (.cells #[.int .i64 0, .int .i64 0, .bool false, .slice none 0 0, .int .i64 0] RT)) (w.heap.size + 1) #[.int .i64 0, .int .i64 0, .bool false, .slice none 0 0, .int .i64 0] RT := by
    have := Blk.new (w.alloc (.cells (rcs a v) RT)) #[.int .i64 0, .int .i64 0, .bool false, .slice none 0 0, .int .i64 0] RT
    rw [e1] at this; exact this
  obtain ⟨ao, c, hv, hcl, hcm⟩ := h.form
  have HSV := Lib.hid h
  have HOK := Lib.hid ho
  have HDU := Lib.hid (fun W (n : New w W) (hl : a.L ≠ []) => rdue a v W (Sub.new h n) hl ho)
  obtain ⟨s0, s1, hln⟩ : 0 ≤ a.sent ∧ a.sent ≤ 1048576 ∧ a.L.length ≤ 1000 := ⟨ho.s0, ho.s1, ho.ln⟩
  have HTB : Hid (rtickB a now = (a.wanted && !decide (now < dueF a))) := Lib.hid rfl
  have HAA : Hid (rtickA a now = if rtickB a now = true then { a with L := a.L ++ [now], sent := a.sent + 1 } else a) := Lib.hid rfl
  have HLW := Lib.hid hl
  have HVLT : Hid (∀ g, v.ownBlock = some g → g < w.heap.size) := Lib.hid (by
    intro g hg
    rcases h with ⟨rfl, _⟩ | h
    · simp [Value.ownBlock] at hg
    · exact (h.lt g hg).2)
  clear h ho e1 hl
  obtain ⟨first, most, wanted, L, sent⟩ := a
  dsimp only [rcs] at *
  subst hv
  have HW0 := Lib.hid hw0
  have HB1 := Lib.hid hb1
  have HR1 := Lib.hid hr1
  have HPB : Hid (w.heap.size ≤ w.heap.size ∧ w.heap.size ≤ w.heap.size + 1 ∧ w.heap.size ≠ w.heap.size + 1) := Lib.hid (by omega)
  clear hw0 hb1 hr1
  have HLN := Lib.hid hcl
  go_enter Try.func20, Try.ntmps20
  go_upto_region 1 with fail
  refine (show Code.wp _ _ _ _ ((w.alloc (.cells #[.int .i64 first, .int .i64 most, .bool wanted, .slice ao L.length c, .int .i64 sent] RT)).alloc (.cells #[.int .i64 0, .int .i64 0, .bool false, .slice none 0 0, .int .i64 0] RT)) from ?_)
  generalize ((w.alloc (.cells #[.int .i64 first, .int .i64 most, .bool wanted, .slice ao L.length c, .int .i64 sent] RT)).alloc (.cells #[.int .i64 0, .int .i64 0, .bool false, .slice none 0 0, .int .i64 0] RT)) = w1 at *
  generalize w.heap.size + 1 = pr at *
  obtain ⟨pb, hpb⟩ : ∃ pb, pb = w.heap.size := ⟨_, rfl⟩
  rw [← hpb] at HPB HB1 ⊢
  have HPE := Lib.hid hpb
  clear hpb
  obtain ⟨c0, c1, c2, c3, c4⟩ := five HB1.out
  have HOFF : Hid (∀ g, (Value.slice ao L.length c).ownBlock = some g → ((Value.slice ao L.length c).ownBlock = some g ∨ w.heap.size ≤ g) ∧ g ≠ pr) := Lib.hid (fun g hg => ⟨.inl hg, by have h1 := HVLT.out g hg; have h2 := HPB.out; have h3 := HPE.out; omega⟩)
  cases wanted
  · obtain ⟨r0, r1, r2, r3, r4⟩ := five HR1.out
    obtain ⟨f0, f1, f2, f3, f4⟩ := frees HR1.out
    have HF := Lib.hid (fin_ (wp := 0) (vs := [.int .i64 first, .int .i64 most, .bool false, .slice ao L.length c, .int .i64 sent]) (by have := HPB.out; have := HPE.out; omega) HW0.out HR1.out rfl (Sub.new HSV.out HW0.out) HOFF.out)
    go_wp2_with fail
    refine (show bodyPost _ _ _ _ _ (puts w1 pr 0 [.int .i64 first, .int .i64 most, .bool false, .slice ao L.length c, .int .i64 sent]) from ?_)
    generalize puts w1 pr 0 [.int .i64 first, .int .i64 most, .bool false, .slice ao L.length c, .int .i64 sent] = w9 at *
    obtain ⟨g0, g1, g2, g3, g4⟩ := five HF.out.1
    refine bodyPost_ret (v := .tuple #[.agg #[.int .i64 first, .int .i64 most, .bool false, .slice ao L.length c, .int .i64 sent], .bool false]) (by simp [results, Try.results20, go_sem, g0, g1, g2, g3, g4]) rfl ?_
    refine ⟨.slice ao L.length c, ?_, ?_⟩
    · rw [HAA.out, HTB.out]; rfl
    · rw [HAA.out, HTB.out]; exact HF.out.2
  · have HLE : Hid (L ≠ []) := Lib.hid (HLW.out rfl)
    go_wp2_with fail
    refine (HDU.out _ HW0.out HLE.out).mono ?_
    rintro e w3 ⟨rfl, n3⟩
    have hw3 : New w w3 := HW0.out.trans (n3.mono (fun _ _ h => h.elim))
    have hb3 := n3.blk HB1.out (fun h => h)
    have hr3 := n3.blk HR1.out (fun h => h)
    have HW3 := Lib.hid hw3
    have HB3 := Lib.hid hb3
    have HR3 := Lib.hid hr3
    clear c0 c1 c2 c3 c4
    obtain ⟨c0, c1, c2, c3, c4⟩ := five hb3
    obtain ⟨r0, r1, r2, r3, r4⟩ := five hr3
    obtain ⟨f0, f1, f2, f3, f4⟩ := frees hr3
    clear hw3 hb3 hr3 n3 HW0 HB1 HR1
    generalize dueF ⟨first, most, true, L, sent⟩ = du at *
    by_cases hd : now < du
    · have HF := Lib.hid (fin_ (wp := 0) (vs := [.int .i64 first, .int .i64 most, .bool true, .slice ao L.length c, .int .i64 sent]) (by have := HPB.out; have := HPE.out; omega) HW3.out HR3.out rfl (Sub.new HSV.out HW3.out) HOFF.out)
      have HD : Hid (decide (now < du) = true) := Lib.hid (decide_eq_true hd)
      go_wp2_with fail
      refine (show bodyPost _ _ _ _ _ (puts w3 pr 0 [.int .i64 first, .int .i64 most, .bool true, .slice ao L.length c, .int .i64 sent]) from ?_)
      generalize puts w3 pr 0 [.int .i64 first, .int .i64 most, .bool true, .slice ao L.length c, .int .i64 sent] = w9 at *
      obtain ⟨g0, g1, g2, g3, g4⟩ := five HF.out.1
      refine bodyPost_ret (v := .tuple #[.agg #[.int .i64 first, .int .i64 most, .bool true, .slice ao L.length c, .int .i64 sent], .bool false]) (by simp [results, Try.results20, go_sem, g0, g1, g2, g3, g4]) rfl ?_
      refine ⟨.slice ao L.length c, ?_, ?_⟩
      · rw [HAA.out, HTB.out, HD.out]; rfl
      · rw [HAA.out, HTB.out, HD.out]; exact HF.out.2
    · have HD : Hid (decide (now < du) = false) := Lib.hid (decide_eq_false hd)
      go_upto_region 3 with fail
      clear r0 r1 r2 r3 r4 f0 f1 f2 f3 f4
      have f3 := HB3.out.free 3
      have hpl := HB3.out.lt
      have hprl := HR3.out.lt
      have HO1 : Hid (Owns IE IT (w3.alloc (.cells #[] IT)) (.slice (some ⟨w3.heap.size, 0, none⟩) 0 0) []) := Lib.hid (ints.Owns.made0 (Blk.new _ _ _))
      have HS1 : Hid (Sub IE 0 (w3.alloc (.cells #[] IT)) (.slice ao L.length c) L) := Lib.hid (Sub.new HSV.out (HW3.out.alloc _))
      have HL1 : Hid (([] : List Int).length + L.length ≤ 1048576) := Lib.hid (by simp; omega)
      go_wp2_with (at_builtin; refine wpList_append_sub (E := IE) Try.underlying30 infoI rfl (by decide) (by decide) rfl _ _ rfl _ [] L rfl HO1.out _ rfl 0 HS1.out HL1.out ?_)
      intro v8 w8 hown hgrow hat
      have G8 := Lib.hid (ints.madeC (w2 := w3) ((Turns.refl (fun _ => False) w3).alloc (.cells #[] IT)) (Nat.le_refl _) hown hgrow (by rw [World.size_alloc]; exact hat))
      obtain ⟨a8, c8, hv8, _⟩ := G8.out.own.form
      subst hv8
      have hb8 := G8.out.n.blk HB3.out (fun h => h)
      have hr8 := G8.out.n.blk HR3.out (fun h => h)
      have HB8 := Lib.hid hb8
      have HR8 := Lib.hid hr8
      have HPL : Hid (pb < w3.heap.size ∧ pr < w3.heap.size) := Lib.hid ⟨hpl, hprl⟩
      clear hown hgrow hat HO1 HS1 HL1 c0 c1 c2 c3 c4 f3 hpl hprl
      have hpl := hb8.lt
      obtain ⟨c0, c1, c2, c3, c4⟩ := five hb8
      have f3 := hb8.free 3
      have HO2 : Hid (Owns IE IT (w8.alloc (.cells #[.int .i64 now] IT)) (.slice a8 L.length c8) L) := Lib.hid (G8.out.own.turns ((Turns.refl (fun _ => False) _).alloc _) (fun _ _ h => h))
      have HS2 : Hid (Sub IE 0 (w8.alloc (.cells #[.int .i64 now] IT)) (.slice (some ⟨w8.heap.size, 0, none⟩) 1 1) [now]) := Lib.hid (ints.Sub.one (Blk.new _ _ _))
      have HL2 : Hid (L.length + ([now] : List Int).length ≤ 1048576) := Lib.hid (by simp; omega)
      clear hb8 hr8
      go_wp2_with (at_builtin; refine wpList_append_sub (E := IE) Try.underlying30 infoI rfl (by decide) (by decide) rfl _ _ rfl _ L [now] rfl HO2.out _ rfl 0 HS2.out HL2.out ?_)
      intro v10 w10 hown hgrow hat
      have G10 := Lib.hid (G8.out.push hown hgrow (by rw [World.size_alloc]; exact hat))
      have hlen : (L ++ [now]).length = L.length + 1 := by simp
      obtain ⟨a10, c10, hv10, _⟩ := G10.out.own.form
      rw [hlen] at hv10
      subst hv10
      have hb10 := G10.out.n.blk HB3.out (fun h => h)
      have hr10 := G10.out.n.blk HR3.out (fun h => h)
      have HR10 := Lib.hid hr10
      have HB10 := Lib.hid hb10
      clear hown hgrow hat HO2 HS2 HL2 c0 c1 c2 c3 c4 f3 hpl hlen HB8 HR8 hr10
      obtain ⟨c0, c1, c2, c3, c4⟩ := five hb10
      have f3 := hb10.free 3
      have f4 := hb10.free 4
      clear hb10
      go_upto_region 5 with fail
      have HB11 : Hid (Blk (puts w10 pb 3 [.slice a10 (L.length + 1) c10, .int .i64 (sent + 1)]) pb #[.int .i64 first, .int .i64 most, .bool true, .slice a10 (L.length + 1) c10, .int .i64 (sent + 1)] RT) := Lib.hid (puts_over [.slice a10 (L.length + 1) c10, .int .i64 (sent + 1)] 3 _ [.int .i64 first, .int .i64 most, .bool true, .slice ao L.length c, .int .i64 sent] HB10.out)
      have HT11 := Lib.hid (puts_turns (S := (· = pb)) (p := pb) (.inl rfl) [.slice a10 (L.length + 1) c10, .int .i64 (sent + 1)] 3 _ (Turns.refl (· = pb) w10))
      refine (show Code.wp _ _ _ _ (puts w10 pb 3 [.slice a10 (L.length + 1) c10, .int .i64 (sent + 1)]) from ?_)
      clear c0 c1 c2 c3 c4 f3 f4
      generalize puts w10 pb 3 [.slice a10 (L.length + 1) c10, .int .i64 (sent + 1)] = w11 at *
      have hr11 := HT11.out.blk HR10.out (by have := HPB.out; omega)
      have HR11 := Lib.hid hr11
      have HVB : Hid (∀ g, (Value.slice a10 (L.length + 1) c10).ownBlock = some g → w3.heap.size ≤ g) := Lib.hid (fun g hg => G10.out.vb g hg)
      have HSW : Hid (Sub IE 0 w11 (.slice a10 (L.length + 1) c10) (L ++ [now])) := Lib.hid (Sub.turns' (G10.out.own.sub 0 (fun _ _ => Nat.zero_le _)) HT11.out (fun g hg e => by have := HVB.out g hg; have := HPL.out; omega))
      have HN11 : Hid (New w w11) := Lib.hid ((HW3.out.trans (G10.out.n.mono (fun _ _ h => h.elim))).trans (HT11.out.mono (fun i _ hi => .inr (by have := HPB.out; have := HPE.out; omega))))
      have HF := Lib.hid (fin_ (v := .slice ao L.length c) (wp := 0) (vs := [.int .i64 first, .int .i64 most, .bool true, .slice a10 (L.length + 1) c10, .int .i64 (sent + 1)]) (by have := HPB.out; have := HPE.out; omega) HN11.out HR11.out rfl HSW.out (fun g hg => ⟨.inr (by have := HVB.out g hg; have := HW3.out.size; omega), by have := HVB.out g hg; have := HPL.out; omega⟩))
      obtain ⟨c0, c1, c2, c3, c4⟩ := five HB11.out
      obtain ⟨r0, r1, r2, r3, r4⟩ := five hr11
      obtain ⟨f0, f1, f2, f3, f4⟩ := frees hr11
      clear hr11
      go_wp2_with fail
      refine (show bodyPost _ _ _ _ _ (puts w11 pr 0 [.int .i64 first, .int .i64 most, .bool true, .slice a10 (L.length + 1) c10, .int .i64 (sent + 1)]) from ?_)
      generalize puts w11 pr 0 [.int .i64 first, .int .i64 most, .bool true, .slice a10 (L.length + 1) c10, .int .i64 (sent + 1)] = w9 at *
      obtain ⟨g0, g1, g2, g3, g4⟩ := five HF.out.1
      refine bodyPost_ret (v := .tuple #[.agg #[.int .i64 first, .int .i64 most, .bool true, .slice a10 (L.length + 1) c10, .int .i64 (sent + 1)], .bool true]) (by simp [results, Try.results20, go_sem, g0, g1, g2, g3, g4]) rfl ?_
      refine ⟨.slice a10 (L.length + 1) c10, ?_, ?_⟩
      · rw [HAA.out, HTB.out, HD.out]; rfl
      · rw [HAA.out, HTB.out, HD.out]; exact HF.out.2
end Go.Proofs.Ytjiodpbgjhoakaa.pli
