/-
  The reference of layer 21: Want.
-/
import Derived.Test.YtjiodpbgjhoakaaPliRef
namespace Go.Proofs.Ytjiodpbgjhoakaa.pli
open Go.RowKit mem
open ints (IE IT ST infoI)
set_option linter.unusedVariables false

theorem RPost.trans0 {w w1 w2 : World} {v v' : Value} {L : List Int} (n : New w w1) (h : RPost w1 w2 v v' L) : RPost w w2 v v' L :=
  ⟨h.sub, fun g hg => (h.src g hg).elim .inl (fun h => .inr (Nat.le_trans n.size h)), n.trans (h.n.mono (fun _ _ h => h.elim))⟩
set_option maxHeartbeats 1000000 in
theorem rwant (a : RA) (v : Value) (on : Bool) (now : Int) (w : World) (h : Sub IE 0 w v a.L) (hl : a.wanted = true → a.L ≠ []) (ho : a.ok) (n0 : 0 ≤ now) (n1 : now ≤ 4398046511104) :
    Calls Try.prog 18 #[.agg (rcs a v), .bool on, .int .i64 now] w fun e w' => ∃ v', e = .returned (.tuple #[.agg (rcs (rwantA a on now) v'), .bool (rwantB a on now)]) ∧ RPost w w' v v' (rwantA a on now).L := by
  have hw0 : New w ((w.alloc (.cells (rcs a v) RT)).alloc (.cells #[.int .i64 0, .int .i64 0, .bool false, .slice none 0 0, .int .i64 0] RT)) := ((Turns.refl _ _).alloc _).alloc _
  have e1 : (w.alloc (.cells (rcs a v) RT)).heap.size = w.heap.size + 1 := by simp
  have hb1 : Blk ((w.alloc (.cells (rcs a v) RT)).alloc (.cells #[.int .i64 0, .int .i64 0, .bool false, .slice none 0 0, .int .i64 0] RT)) w.heap.size (rcs a v) RT := (Blk.new _ _ _).alloc _
  have hr1 : Blk ((w.alloc (.cells (rcs a v) RT)).alloc (.cells #[.int .i64 0, .int .i64 0, .bool false, .slice none 0 0, .int .i64 0] RT)) (w.heap.size + 1) #[.int .i64 0, .int .i64 0, .bool false, .slice none 0 0, .int .i64 0] RT := by
    have := Blk.new (w.alloc (.cells (rcs a v) RT)) #[.int .i64 0, .int .i64 0, .bool false, .slice none 0 0, .int .i64 0] RT
    rw [e1] at this; exact this
  obtain ⟨ao, c, hv, hcl, hcm⟩ := h.form
  have HSV := Lib.hid h
  have HDU := Lib.hid (fun W (n : New w W) => rtick a v now W (Sub.new h n) hl ho n0 n1)
  obtain ⟨s0, s1, hln⟩ : 0 ≤ a.sent ∧ a.sent ≤ 1048576 ∧ a.L.length ≤ 1000 := ⟨ho.s0, ho.s1, ho.ln⟩
  have HTB : Hid (rwantB a on now = (on && (!a.wanted || rtickB a now))) := Lib.hid rfl
  have HAA : Hid (rwantA a on now = if on = true then (if a.wanted = true then rtickA a now else { a with wanted := true, L := [now], sent := a.sent + 1 }) else { a with wanted := false, L := [] }) := Lib.hid rfl
  have HVLT : Hid (∀ g, v.ownBlock = some g → g < w.heap.size) := Lib.hid (by
    intro g hg
    rcases h with ⟨rfl, _⟩ | h
    · simp [Value.ownBlock] at hg
    · exact (h.lt g hg).2)
  clear h ho e1 hl
  obtain ⟨first, most, wanted, L, sent⟩ := a
  dsimp only [rcs] at *
  subst hv
  have HW0 := Lib.hid hw0
  have HB1 := Lib.hid hb1
  have HR1 := Lib.hid hr1
  have HPB : Hid (w.heap.size ≤ w.heap.size ∧ w.heap.size ≤ w.heap.size + 1 ∧ w.heap.size ≠ w.heap.size + 1) := Lib.hid (by omega)
  clear hw0 hb1 hr1
  go_enter Try.func18, Try.ntmps18
  go_upto_region 1 with fail
  refine (show Code.wp _ _ _ _ ((w.alloc (.cells #[.int .i64 first, .int .i64 most, .bool wanted, .slice ao L.length c, .int .i64 sent] RT)).alloc (.cells #[.int .i64 0, .int .i64 0, .bool false, .slice none 0 0, .int .i64 0] RT)) from ?_)
  generalize ((w.alloc (.cells #[.int .i64 first, .int .i64 most, .bool wanted, .slice ao L.length c, .int .i64 sent] RT)).alloc (.cells #[.int .i64 0, .int .i64 0, .bool false, .slice none 0 0, .int .i64 0] RT)) = w1 at *
  generalize w.heap.size + 1 = pr at *
  obtain ⟨pb, hpb⟩ : ∃ pb, pb = w.heap.size := ⟨_, rfl⟩
  rw [← hpb] at HPB HB1 ⊢
  have HPE := Lib.hid hpb
  clear hpb
  obtain ⟨c0, c1, c2, c3, c4⟩ := five HB1.out
  obtain ⟨b0, b1, b2, b3, b4⟩ := frees HB1.out
  cases on
  · have HB2 : Hid (Blk (puts w1 pb 2 [.bool false, .slice none 0 0]) pb #[.int .i64 first, .int .i64 most, .bool false, .slice none 0 0, .int .i64 sent] RT) := Lib.hid (puts_over [.bool false, .slice none 0 0] 2 _ [.int .i64 first, .int .i64 most, .bool wanted, .slice ao L.length c, .int .i64 sent] HB1.out)
    have HT2 := Lib.hid (puts_turns (S := (· = pb)) (p := pb) (.inl rfl) [.bool false, .slice none 0 0] 2 _ (Turns.refl (· = pb) w1))
    go_upto_region 4 with fail
    refine (show Code.wp _ _ _ _ (puts w1 pb 2 [.bool false, .slice none 0 0]) from ?_)
    clear c0 c1 c2 c3 c4 b0 b1 b2 b3 b4
    generalize puts w1 pb 2 [.bool false, .slice none 0 0] = w2 at *
    have hr2 := HT2.out.blk HR1.out (by have := HPB.out; omega)
    have HR2 := Lib.hid hr2
    have HN2 : Hid (New w w2) := Lib.hid (HW0.out.trans (HT2.out.mono (fun i _ hi => .inr (by have := HPB.out; have := HPE.out; omega))))
    have HF := Lib.hid (fin_ (v := .slice ao L.length c) (vk := .slice none 0 0) (L := []) (wp := 0) (vs := [.int .i64 first, .int .i64 most, .bool false, .slice none 0 0, .int .i64 sent]) (by have := HPB.out; have := HPE.out; omega) HN2.out HR2.out rfl (.inl ⟨rfl, rfl⟩) (fun g hg => by simp [Value.ownBlock] at hg))
    obtain ⟨c0, c1, c2, c3, c4⟩ := five HB2.out
    obtain ⟨r0, r1, r2, r3, r4⟩ := five hr2
    obtain ⟨f0, f1, f2, f3, f4⟩ := frees hr2
    clear hr2
    go_wp2_with fail
    refine (show bodyPost _ _ _ _ _ (puts w2 pr 0 [.int .i64 first, .int .i64 most, .bool false, .slice none 0 0, .int .i64 sent]) from ?_)
    generalize puts w2 pr 0 [.int .i64 first, .int .i64 most, .bool false, .slice none 0 0, .int .i64 sent] = w9 at *
    obtain ⟨g0, g1, g2, g3, g4⟩ := five HF.out.1
    refine bodyPost_ret (v := .tuple #[.agg #[.int .i64 first, .int .i64 most, .bool false, .slice none 0 0, .int .i64 sent], .bool false]) (by simp [results, Try.results18, go_sem, g0, g1, g2, g3, g4]) rfl ?_
    refine ⟨.slice none 0 0, ?_, ?_⟩
    · rw [HAA.out, HTB.out]; rfl
    · rw [HAA.out]; exact HF.out.2
  · cases wanted
    · go_upto_region 8 with fail
      have HB2 : Hid (Blk (w1.setCell ⟨pb, 2, none⟩ (.bool true)) pb #[.int .i64 first, .int .i64 most, .bool true, .slice ao L.length c, .int .i64 sent] RT) := Lib.hid (HB1.out.set 2 _)
      have HT2 := Lib.hid ((Turns.refl (· = pb) w1).setCell (p := ⟨pb, 2, none⟩) (.inl rfl) (.bool true))
      refine (show Code.wp _ _ _ _ (w1.setCell ⟨pb, 2, none⟩ (.bool true)) from ?_)
      clear c0 c1 c2 c3 c4 b0 b1 b2 b3 b4
      generalize w1.setCell ⟨pb, 2, none⟩ (.bool true) = w2 at *
      have hr2 := HT2.out.blk HR1.out (by have := HPB.out; omega)
      have HR2 := Lib.hid hr2
      have HN2 : Hid (New w w2) := Lib.hid (HW0.out.trans (HT2.out.mono (fun i _ hi => .inr (by have := HPB.out; have := HPE.out; omega))))
      obtain ⟨c0, c1, c2, c3, c4⟩ := five HB2.out
      obtain ⟨b0, b1, b2, b3, b4⟩ := frees HB2.out
      have hpl := HB2.out.lt
      have HPL : Hid (pb < w2.heap.size ∧ pr < w2.heap.size) := Lib.hid ⟨hpl, hr2.lt⟩
      clear hr2
      go_upto_region 10 with fail
      have HA3 : Hid (Blk ((puts w2 pb 3 [.slice (some ⟨w2.heap.size, 0, none⟩) 1 1, .int .i64 (sent + 1)]).alloc (.cells #[.int .i64 now] IT)) pb #[.int .i64 first, .int .i64 most, .bool true, .slice (some ⟨w2.heap.size, 0, none⟩) 1 1, .int .i64 (sent + 1)] RT ∧ Blk ((puts w2 pb 3 [.slice (some ⟨w2.heap.size, 0, none⟩) 1 1, .int .i64 (sent + 1)]).alloc (.cells #[.int .i64 now] IT)) w2.heap.size #[.int .i64 now] IT ∧ Turns (· = pb) w2 ((puts w2 pb 3 [.slice (some ⟨w2.heap.size, 0, none⟩) 1 1, .int .i64 (sent + 1)]).alloc (.cells #[.int .i64 now] IT))) := Lib.hid (by
        have h1 := puts_over [.slice (some ⟨w2.heap.size, 0, none⟩) 1 1, .int .i64 (sent + 1)] 3 _ [.int .i64 first, .int .i64 most, .bool true, .slice ao L.length c, .int .i64 sent] HB2.out
        have h2 := puts_turns (S := (· = pb)) (p := pb) (.inl rfl) [.slice (some ⟨w2.heap.size, 0, none⟩) 1 1, .int .i64 (sent + 1)] 3 _ (Turns.refl (· = pb) w2)
        have e : (puts w2 pb 3 [.slice (some ⟨w2.heap.size, 0, none⟩) 1 1, .int .i64 (sent + 1)]).heap.size = w2.heap.size := by simp [puts, World.setCell]
        refine ⟨h1.alloc _, ?_, h2.alloc _⟩
        have h3 := Blk.new (puts w2 pb 3 [.slice (some ⟨w2.heap.size, 0, none⟩) 1 1, .int .i64 (sent + 1)]) #[.int .i64 now] IT
        rwa [e] at h3)
      refine (show Code.wp _ _ _ _ ((puts w2 pb 3 [.slice (some ⟨w2.heap.size, 0, none⟩) 1 1, .int .i64 (sent + 1)]).alloc (.cells #[.int .i64 now] IT)) from ?_)
      clear c0 c1 c2 c3 c4 b0 b1 b2 b3 b4 hpl
      generalize (puts w2 pb 3 [.slice (some ⟨w2.heap.size, 0, none⟩) 1 1, .int .i64 (sent + 1)]).alloc (.cells #[.int .i64 now] IT) = w3 at *
      have hr3 := HA3.out.2.2.blk HR2.out (by have := HPB.out; omega)
      have HR3 := Lib.hid hr3
      have HN3 : Hid (New w w3) := Lib.hid (HN2.out.trans (HA3.out.2.2.mono (fun i _ hi => .inr (by have := HPB.out; have := HPE.out; omega))))
      obtain ⟨m2, hm2⟩ : ∃ m2, m2 = w2.heap.size := ⟨_, rfl⟩
      have HM2 := Lib.hid hm2
      rw [← hm2] at HA3 ⊢
      clear hm2
      have HF := Lib.hid (fin_ (v := .slice ao L.length c) (vk := .slice (some ⟨m2, 0, none⟩) 1 1) (L := [now]) (wp := 0) (vs := [.int .i64 first, .int .i64 most, .bool true, .slice (some ⟨m2, 0, none⟩) 1 1, .int .i64 (sent + 1)]) (by have := HPB.out; have := HPE.out; omega) HN3.out HR3.out rfl (ints.Sub.one HA3.out.2.1) (fun g hg => by
        have e : m2 = g := by simpa [Value.ownBlock] using hg
        have h1 := HN2.out.size
        have h2 := HPL.out
        have h3 := HM2.out
        exact ⟨.inr (by omega), by omega⟩))
      obtain ⟨c0, c1, c2, c3, c4⟩ := five HA3.out.1
      obtain ⟨r0, r1, r2, r3, r4⟩ := five hr3
      obtain ⟨f0, f1, f2, f3, f4⟩ := frees hr3
      clear hr3
      go_wp2_with fail
      refine (show bodyPost _ _ _ _ _ (puts w3 pr 0 [.int .i64 first, .int .i64 most, .bool true, .slice (some ⟨m2, 0, none⟩) 1 1, .int .i64 (sent + 1)]) from ?_)
      generalize puts w3 pr 0 [.int .i64 first, .int .i64 most, .bool true, .slice (some ⟨m2, 0, none⟩) 1 1, .int .i64 (sent + 1)] = w9 at *
      obtain ⟨g0, g1, g2, g3, g4⟩ := five HF.out.1
      refine bodyPost_ret (v := .tuple #[.agg #[.int .i64 first, .int .i64 most, .bool true, .slice (some ⟨m2, 0, none⟩) 1 1, .int .i64 (sent + 1)], .bool true]) (by simp [results, Try.results18, go_sem, g0, g1, g2, g3, g4]) rfl ?_
      refine ⟨.slice (some ⟨m2, 0, none⟩) 1 1, ?_, ?_⟩
      · rw [HAA.out, HTB.out]; rfl
      · rw [HAA.out]; exact HF.out.2
    · go_wp2_with fail
      refine (HDU.out _ HW0.out).mono ?_
      rintro e w3 ⟨v3, rfl, hp3⟩
      have hr3 := hp3.n.blk HR1.out (fun h => h)
      have HR3 := Lib.hid hr3
      have HP3 := Lib.hid (RPost.trans0 HW0.out hp3)
      have HLT : Hid (pr < w1.heap.size) := Lib.hid HR1.out.lt
      have HSRC := Lib.hid hp3.src
      obtain ⟨a3, c3', hv3, _⟩ := hp3.sub.form
      have HAB : Hid (rwantA ⟨first, most, true, L, sent⟩ true now = rtickA ⟨first, most, true, L, sent⟩ now ∧ rwantB ⟨first, most, true, L, sent⟩ true now = rtickB ⟨first, most, true, L, sent⟩ now) := Lib.hid ⟨by rw [HAA.out]; rfl, by rw [HTB.out]; rfl⟩
      generalize rtickA ⟨first, most, true, L, sent⟩ now = q at *
      generalize rtickB ⟨first, most, true, L, sent⟩ now = qb at *
      obtain ⟨qf, qm, qw, qL, qs⟩ := q
      dsimp only at *
      subst hv3
      have HF := Lib.hid (fin_ (v := .slice ao L.length c) (vk := .slice a3 qL.length c3') (L := qL) (wp := 0) (vs := [.int .i64 qf, .int .i64 qm, .bool qw, .slice a3 qL.length c3', .int .i64 qs]) (by have := HPB.out; have := HPE.out; omega) HP3.out.n HR3.out rfl HP3.out.sub (fun g hg => ⟨HP3.out.src g hg, by
        have h1 := HLT.out
        rcases HSRC.out g hg with h | h
        · have h2 := HVLT.out g h
          have h3 := HPB.out
          have h4 := HPE.out
          omega
        · omega⟩))
      obtain ⟨r0, r1, r2, r3, r4⟩ := five hr3
      obtain ⟨f0, f1, f2, f3, f4⟩ := frees hr3
      clear hr3 hp3 c0 c1 c2 c3 c4 b0 b1 b2 b3 b4
      go_wp2_with fail
      refine (show bodyPost _ _ _ _ _ (puts w3 pr 0 [.int .i64 qf, .int .i64 qm, .bool qw, .slice a3 qL.length c3', .int .i64 qs]) from ?_)
      generalize puts w3 pr 0 [.int .i64 qf, .int .i64 qm, .bool qw, .slice a3 qL.length c3', .int .i64 qs] = w9 at *
      obtain ⟨g0, g1, g2, g3, g4⟩ := five HF.out.1
      refine bodyPost_ret (v := .tuple #[.agg #[.int .i64 qf, .int .i64 qm, .bool qw, .slice a3 qL.length c3', .int .i64 qs], .bool qb]) (by simp [results, Try.results18, go_sem, g0, g1, g2, g3, g4]) rfl ?_
      refine ⟨.slice a3 qL.length c3', ?_, ?_⟩
      · rw [HAB.out.1, HAB.out.2]
      · rw [HAB.out.1]; exact HF.out.2
end Go.Proofs.Ytjiodpbgjhoakaa.pli
