/-
  The reference of layer 19: Remove.
-/
import Derived.Test.YtcppibjllaablaaZEgrR19g
import Derived.Test.YtcppibjllaablaaZKaa
set_option linter.unusedVariables false
set_option linter.unusedSimpArgs false
namespace Go.Proofs.Ytcppibjllaablaa.drr
open Go.RowKit mem
set_option linter.unusedVariables false

theorem filt_at {L : List Fl} (ha : SAsc L) {i : Nat} {f : Fl} (hf : L[i]? = some f) : L.filter (fun g => g.id != f.id) = L.take i ++ L.drop (i + 1) := by
  induction L generalizing i with
  | nil => simp at hf
  | cons g l ih =>
    have h' : (g.id :: l.map (·.id)).Pairwise (· < ·) := ha
    obtain ⟨h1, h2⟩ := List.pairwise_cons.1 h'
    cases i with
    | zero =>
      have e : g = f := by simpa using hf
      subst e
      rw [List.filter_cons]
      have : (g.id != g.id) = false := by simp
      rw [this]
      show l.filter _ = [] ++ l
      rw [List.nil_append]
      exact List.filter_eq_self.2 (fun y hy => by
        have := h1 _ (List.mem_map.2 ⟨y, hy, rfl⟩)
        simp; omega)
    | succ i =>
      have hf' : l[i]? = some f := by simpa using hf
      have hm := h1 _ (List.mem_map.2 ⟨f, List.mem_of_getElem? hf', rfl⟩)
      rw [List.filter_cons]
      have : (g.id != f.id) = true := by simp; omega
      rw [this, if_pos rfl, ih h2 hf']
      rfl
theorem mb_of {w w3 w10 : World} {pb pr : Nat} {u v : Value} {L : List Fl} {most tt : Int} {g : Bool} (n : New9 w w3) (hb : Blk w3 pb #[.int .i64 most, u, .int .i64 tt, .bool g] GST) (hr : Blk w3 pr #[.int .i64 0, .slice none 0 0, .int .i64 0, .bool false] GST) (hg : Gr GE GT w3 w10 v L) (lo : w.heap.size ≤ pb ∧ w.heap.size ≤ pr ∧ pb ≠ pr) :
    Mb w (w10.setCell ⟨pb, 1, none⟩ v) pb pr v L most tt g := by
  have hb10 := hg.n.blk hb (fun h => h)
  have T6 : Turns (· = pb) w10 (w10.setCell ⟨pb, 1, none⟩ v) := (Turns.refl (· = pb) _).setCell (.inl rfl) _
  have hb6 : Blk (w10.setCell ⟨pb, 1, none⟩ v) pb #[.int .i64 most, v, .int .i64 tt, .bool g] GST := hb10.set 1 _
  exact ⟨hb6, T6.blk (hg.n.blk hr (fun h => h)) (fun e => lo.2.2 e.symm), ⟨hg.own.turns T6 (fun y hy e => (TS.of_owns hg.own).off hb10 (by decide) (by rw [hy, e])), fun y hy => Nat.le_trans n.size (hg.vb y hy), (n.trans (hg.n.mono (fun _ _ h => h.elim))).trans (T6.mono (fun k _ hk => .inr (by rw [hk]; exact lo.1)))⟩, lo⟩
theorem Gr.grow {w W w2 : World} {v v' : Value} {L l : List Fl} (h : Gr GE GT w W v L) (ho : Owns GE GT w2 v' (L ++ l)) (hg : W.grownBy w2 v.ownBlock) (ha : v'.ownBlock = v.ownBlock ∨ v'.ownBlock = some W.heap.size) : Gr GE GT w w2 v' (L ++ l) := by
  refine ⟨ho, ?_, h.n.trans ((Turns.of_grown hg).mono (fun k _ hk => .inr (h.vb k hk.symm)))⟩
  intro g hg2
  rcases ha with e | e
  · exact h.vb g (e ▸ hg2)
  · rw [e] at hg2; injection hg2 with hg2; have := h.n.size; omega
theorem filt_no {L : List Fl} {id : Int} (h : ∀ f ∈ L, f.id ≠ id) : L.filter (fun g => g.id != id) = L := List.filter_eq_self.2 (fun y hy => by simpa using h y hy)
set_option maxRecDepth 100000 in
set_option maxHeartbeats 4000000 in
theorem rrem_none (v : Value) (s : Sc) (id : Int) (w : World) (h : TS GE GT w v s.L) (hl : s.L.length ≤ 1048576) (hno : ∀ f ∈ s.L, f.id ≠ id) :
    Calls Try.prog 93 #[.agg (rS s v), .int .i64 id] w fun e w' => e = .returned (.tuple #[.agg (rS s v), .int .i64 12]) ∧ New9 w w' := by
  obtain ⟨ao, n, c, hv, hn, _, _⟩ := h.form
  subst hv
  have HS := Lib.hid h
  have HLN : Hid (s.L.length ≤ 1048576) := Lib.hid hl
  have HFN := Lib.hid (find_not hno)
  clear h hn hl hno
  have HB : Hid (Blk ((w.alloc (.cells #[.int .i64 s.most, .slice ao n c, .int .i64 s.turn, .bool s.g] GST)).alloc (.cells #[.int .i64 0, .slice none 0 0, .int .i64 0, .bool false] GST)) w.heap.size #[.int .i64 s.most, .slice ao n c, .int .i64 s.turn, .bool s.g] GST) := Lib.hid ((Blk.new _ _ _).alloc _)
  have HR : Hid (Blk ((w.alloc (.cells #[.int .i64 s.most, .slice ao n c, .int .i64 s.turn, .bool s.g] GST)).alloc (.cells #[.int .i64 0, .slice none 0 0, .int .i64 0, .bool false] GST)) (w.heap.size + 1) #[.int .i64 0, .slice none 0 0, .int .i64 0, .bool false] GST) := Lib.hid (by
    rw [show w.heap.size + 1 = (w.alloc (.cells #[.int .i64 s.most, .slice ao n c, .int .i64 s.turn, .bool s.g] GST)).heap.size by simp]
    exact Blk.new _ _ _)
  have H0 : Hid (New9 w ((w.alloc (.cells #[.int .i64 s.most, .slice ao n c, .int .i64 s.turn, .bool s.g] GST)).alloc (.cells #[.int .i64 0, .slice none 0 0, .int .i64 0, .bool false] GST))) := Lib.hid (((Turns.refl _ _).alloc _).alloc _)
  have HPP : Hid (w.heap.size ≠ w.heap.size + 1 ∧ w.heap.size ≤ w.heap.size + 1) := Lib.hid (by omega)
  go_enter Try.func93, Try.ntmps93
  go_upto_region 1 with fail
  refine (show Code.wp _ _ _ _ ((w.alloc (.cells #[.int .i64 s.most, .slice ao n c, .int .i64 s.turn, .bool s.g] GST)).alloc (.cells #[.int .i64 0, .slice none 0 0, .int .i64 0, .bool false] GST)) from ?_)
  generalize (w.alloc (.cells #[.int .i64 s.most, .slice ao n c, .int .i64 s.turn, .bool s.g] GST)).alloc (.cells #[.int .i64 0, .slice none 0 0, .int .i64 0, .bool false] GST) = w2 at *
  obtain ⟨pb, hpb⟩ : ∃ pb, pb = w.heap.size := ⟨_, rfl⟩
  rw [← hpb] at HB HR
  rw [show (w.heap.size ≠ w.heap.size + 1 ∧ w.heap.size ≤ w.heap.size + 1) = (pb ≠ pb + 1 ∧ w.heap.size ≤ pb + 1) by rw [hpb]] at HPP
  rw [← hpb]
  clear hpb
  generalize pb + 1 = pr at *
  obtain ⟨⟨b0, b1, b2, b3⟩, _⟩ := fours HB.out
  have HFD := Lib.hid (rfind (.slice ao n c) s id w2 (HS.out.later H0.out) HLN.out)
  rw [HFN.out] at HFD
  go_wp2_with fail
  refine HFD.out.mono ?_
  rintro e w3 ⟨rfl, n3⟩
  have HR3 := Lib.hid (n3.blk HR.out (fun h => h))
  have hb3 := n3.blk HB.out (fun h => h)
  have HN3 : Hid (New9 w w3) := Lib.hid (H0.out.trans (n3.mono (fun _ _ h => h.elim)))
  clear n3 b0 b1 b2 b3 HFD HB HR
  have HFI : Hid (Blk (puts w3 pr 0 [.int .i64 s.most, .slice ao n c, .int .i64 s.turn, .bool s.g]) pr #[.int .i64 s.most, .slice ao n c, .int .i64 s.turn, .bool s.g] GST ∧ New9 w (puts w3 pr 0 [.int .i64 s.most, .slice ao n c, .int .i64 s.turn, .bool s.g])) := Lib.hid (by
    have t : Turns (· = pr) w3 (puts w3 pr 0 [.int .i64 s.most, .slice ao n c, .int .i64 s.turn, .bool s.g]) := puts_turns (S := (· = pr)) (.inl rfl) _ 0 _ (Turns.refl _ _)
    exact ⟨puts_blk _ _ HR3.out rfl, HN3.out.trans (t.mono (fun k _ hk => .inr (by rw [hk]; exact HPP.out.2)))⟩)
  obtain ⟨⟨b0, b1, b2, b3⟩, _⟩ := fours hb3
  obtain ⟨⟨r0, r1, r2, r3⟩, y0, y1, y2, y3⟩ := fours HR3.out
  have hne := HPP.out.1
  have hne' := hne.symm
  clear hb3
  go_wp2_with fail
  refine (show bodyPost _ _ _ _ _ (puts w3 pr 0 [.int .i64 s.most, .slice ao n c, .int .i64 s.turn, .bool s.g]) from ?_)
  clear b0 b1 b2 b3 r0 r1 r2 r3 y0 y1 y2 y3
  generalize puts w3 pr 0 [.int .i64 s.most, .slice ao n c, .int .i64 s.turn, .bool s.g] = w12 at *
  obtain ⟨⟨e0, e1, e2, e3⟩, _⟩ := fours HFI.out.1
  refine bodyPost_ret (v := .tuple #[.agg #[.int .i64 s.most, .slice ao n c, .int .i64 s.turn, .bool s.g], .int .i64 12]) (by simp [results, Try.results93, go_sem, e0, e1, e2, e3]) rfl ?_
  exact ⟨rfl, HFI.out.2⟩

set_option maxRecDepth 100000 in
set_option maxHeartbeats 8000000 in
theorem rrem_some (v : Value) (s : Sc) (i : Nat) (f : Fl) (w : World) (h : TS GE GT w v s.L) (hl : s.L.length ≤ 100000) (asc : SAsc s.L) (hf : s.L[i]? = some f) :
    Calls Try.prog 93 #[.agg (rS s v), .int .i64 f.id] w fun e w' => ∃ ao n c, e = .returned (.tuple #[.agg (rS (remS s f.id) (.slice ao n c)), .int .i64 0]) ∧ TS GE GT w' (.slice ao n c) (remS s f.id).L ∧ New9 w w' := by
  have HS := Lib.hid h
  have HX := Lib.hid hf
  have HF := Lib.hid (find_is asc hf rfl)
  have HFT := Lib.hid (filt_at asc hf)
  obtain ⟨ao, n, c, hv, hn, hnc, _⟩ := h.form
  have HN := Lib.hid hn
  have hn2 : n ≤ 100000 := by omega
  have HLN : Hid (s.L.length ≤ 1048576) := Lib.hid (by omega)
  have hil := (List.getElem?_eq_some_iff.1 hf).1
  have j1 : i < n := by omega
  subst hv
  obtain ⟨g0, o0, hg0, _, _⟩ := flow_at h hf
  subst hg0
  have d1 : decide ((i : Int) < 0) = false := decide_eq_false (by omega)
  have s1 : IntKind.i64.wrap ((i : Int) + 1) = (i : Int) + 1 := IntWalk.i64_in _ (by omega)
  clear h hn hl asc hf
  have HB : Hid (Blk ((w.alloc (.cells #[.int .i64 s.most, .slice (some ⟨g0, o0, none⟩) n c, .int .i64 s.turn, .bool s.g] GST)).alloc (.cells #[.int .i64 0, .slice none 0 0, .int .i64 0, .bool false] GST)) w.heap.size #[.int .i64 s.most, .slice (some ⟨g0, o0, none⟩) n c, .int .i64 s.turn, .bool s.g] GST) := Lib.hid ((Blk.new _ _ _).alloc _)
  have HR : Hid (Blk ((w.alloc (.cells #[.int .i64 s.most, .slice (some ⟨g0, o0, none⟩) n c, .int .i64 s.turn, .bool s.g] GST)).alloc (.cells #[.int .i64 0, .slice none 0 0, .int .i64 0, .bool false] GST)) (w.heap.size + 1) #[.int .i64 0, .slice none 0 0, .int .i64 0, .bool false] GST) := Lib.hid (by
    rw [show w.heap.size + 1 = (w.alloc (.cells #[.int .i64 s.most, .slice (some ⟨g0, o0, none⟩) n c, .int .i64 s.turn, .bool s.g] GST)).heap.size by simp]
    exact Blk.new _ _ _)
  have H0 : Hid (New9 w ((w.alloc (.cells #[.int .i64 s.most, .slice (some ⟨g0, o0, none⟩) n c, .int .i64 s.turn, .bool s.g] GST)).alloc (.cells #[.int .i64 0, .slice none 0 0, .int .i64 0, .bool false] GST))) := Lib.hid (((Turns.refl _ _).alloc _).alloc _)
  have HPP : Hid (w.heap.size ≠ w.heap.size + 1 ∧ w.heap.size ≤ w.heap.size ∧ w.heap.size ≤ w.heap.size + 1) := Lib.hid (by omega)
  go_enter Try.func93, Try.ntmps93
  go_upto_region 1 with fail
  refine (show Code.wp _ _ _ _ ((w.alloc (.cells #[.int .i64 s.most, .slice (some ⟨g0, o0, none⟩) n c, .int .i64 s.turn, .bool s.g] GST)).alloc (.cells #[.int .i64 0, .slice none 0 0, .int .i64 0, .bool false] GST)) from ?_)
  generalize (w.alloc (.cells #[.int .i64 s.most, .slice (some ⟨g0, o0, none⟩) n c, .int .i64 s.turn, .bool s.g] GST)).alloc (.cells #[.int .i64 0, .slice none 0 0, .int .i64 0, .bool false] GST) = w2 at *
  obtain ⟨pb, hpb⟩ : ∃ pb, pb = w.heap.size := ⟨_, rfl⟩
  rw [← hpb] at HB HR
  rw [show (w.heap.size ≠ w.heap.size + 1 ∧ w.heap.size ≤ w.heap.size ∧ w.heap.size ≤ w.heap.size + 1) = (pb ≠ pb + 1 ∧ w.heap.size ≤ pb ∧ w.heap.size ≤ pb + 1) by rw [hpb]] at HPP
  rw [← hpb]
  clear hpb
  generalize pb + 1 = pr at *
  obtain ⟨⟨b0, b1, b2, b3⟩, _⟩ := fours HB.out
  have HFD := Lib.hid (rfind (.slice (some ⟨g0, o0, none⟩) n c) s f.id w2 (HS.out.later H0.out) HLN.out)
  rw [HF.out] at HFD
  go_wp2_with fail
  refine HFD.out.mono ?_
  rintro e w3 ⟨rfl, n3⟩
  have HN3 := Lib.hid n3
  have HB3 := Lib.hid (n3.blk HB.out (fun h => h))
  have HR3 := Lib.hid (n3.blk HR.out (fun h => h))
  have HS3 := Lib.hid ((HS.out.later H0.out).later n3)
  clear n3 b0 b1 b2 b3 HFD HB HR
  have hb3 := HB3.out.cell 1
  change w3.cell? ⟨pb, 1, none⟩ = some (.slice (some ⟨g0, o0, none⟩) n c) at hb3
  have fr1 := HB3.out.free 1
  have hpl := HB3.out.lt
  have j0 : i ≤ n := by omega
  have j2 : i + 1 ≤ n := by omega
  have jc : i ≤ c := by omega
  have jc1 : i + 1 ≤ c := by omega
  obtain ⟨ad, had⟩ : ∃ ad, (if c = i + 1 then some (⟨g0, o0, none⟩ : Addr) else some ⟨g0, o0 + (i + 1) * 3, none⟩) = ad := ⟨_, rfl⟩
  have HALL : Hid (∀ W, New9 w3 W → (W.cell? ⟨pb, 1, none⟩ = some (.slice (some ⟨g0, o0, none⟩) n c) ∧ W.frozen? ⟨pb, 1, none⟩ = false ∧ pb < W.heap.size) ∧ Sub GE 0 W (.slice (some ⟨g0, o0, none⟩) i c) (s.L.take i) ∧ Sub GE 0 W (.slice ad (n - (i + 1)) (c - (i + 1))) (s.L.drop (i + 1))) := Lib.hid (fun W N => by
    have hb := N.blk HB3.out (fun h => h)
    have hs := (HS3.out.later N).sub
    have hl : Lies GE 0 W (.slice (some ⟨g0, o0, none⟩) s.L.length c) s.L := by
      rcases hs with ⟨e, _⟩ | hs
      · injection e with e; cases e
      · rw [HN.out] at hs; exact hs
    refine ⟨⟨hb.cell 1, hb.free 1, hb.lt⟩, .inr (hl.take i (by have := HN.out; omega)), .inr ?_⟩
    have := hl.drop (i + 1) (by have := HN.out; omega)
    rw [← had, HN.out]
    exact this)
  have N0 : New9 w3 w3 := Turns.refl _ _
  have HL1 : Hid (([] : List Fl).length + (s.L.take i).length ≤ 1048576) := Lib.hid (by rw [List.length_take]; have := HLN.out; simp; omega)
  have HL2 : Hid ((s.L.take i).length + (s.L.drop (i + 1)).length ≤ 1048576) := Lib.hid (by rw [List.length_take, List.length_drop]; have := HLN.out; omega)
  have HTL : Hid ((s.L.take i).length = i) := Lib.hid (by rw [List.length_take]; have := HN.out; omega)
  go_upto_region 4 with fail
  have k0 : (0 : Int) ≤ (i : Int) := by omega
  have k1 : (i : Int) ≤ (i : Int) + 1 := by omega
  have k2 : (i : Int) + 1 ≤ (n : Int) := by omega
  have k3 : (n : Int) ≤ (c : Int) := by omega
  have k4 : (i : Int) ≤ (c : Int) := by omega
  have k5 : (0 : Int) ≤ (i : Int) + 1 := by omega
  go_cut [] (fun wx => ∃ a4 n4 c4, Mb w wx pb pr (.slice a4 n4 c4) (remS s f.id).L s.most s.turn s.g)
  case first =>
    by_cases hci : c = i + 1
    · rw [if_pos hci] at had
      subst had
      have hni : n = i + 1 := by omega
      have HDE : Hid (s.L.drop (i + 1) = []) := Lib.hid (List.drop_of_length_le (by have := HN.out; omega))
      rw [HDE.out] at HALL HL2
      subst hci hni
      rw [Nat.sub_self] at HALL
      go_region_law
        (first
        | (refine step_append_sub (E := GE) Try.underlying61 infoG rfl (by decide) (by decide) (by rfl) _ _ (by rfl) (.slice (some ⟨_, 0, none⟩) 0 0) (.slice (some ⟨g0, o0, none⟩) i (i + 1)) [] (s.L.take i) (by rfl) (by rfl) (made0G GE (by repeat (first | with_reducible assumption | with_reducible exact Blk.new _ _ _ | with_reducible apply Blk.alloc | with_reducible apply Blk.drew))) 0 (HALL.out _ (by repeat (first | with_reducible assumption | with_reducible apply Turns.alloc | with_reducible apply Turns.drew))).2.1 HL1.out ?_; intro v8 w8 hown8 hgrow8 hat8; rw [List.nil_append] at hown8; have G8 := madeG (w2 := w3) (by repeat (first | with_reducible assumption | with_reducible apply Turns.alloc | with_reducible apply Turns.drew)) (by first | exact Nat.le_refl _ | exact Nat.le_succ _ | (simp; done) | omega) hown8 hgrow8 (by first | exact hat8 | (rw [World.size_alloc]; exact hat8) | simpa using hat8); have N8 : New9 w3 w8 := G8.n; obtain ⟨⟨z2, zf, zl1⟩, _⟩ := HALL.out w8 N8; obtain ⟨a9, c9, hv9, _⟩ := G8.own.form; rw [HTL.out] at hv9; subst hv9; clear hown8 hgrow8 hat8)
        | (refine step_append_sub (E := GE) Try.underlying61 infoG rfl (by decide) (by decide) (by rfl) _ _ (by rfl) (.slice a9 i c9) (.slice (some ⟨g0, o0, none⟩) 0 0) (s.L.take i) [] (by rfl) (by rfl) (G8.own.turns (S := fun _ => False) (by repeat (first | exact Turns.refl _ _ | with_reducible assumption | with_reducible apply Turns.alloc | with_reducible apply Turns.drew)) (fun _ _ h => h)) 0 (HALL.out _ (by repeat (first | with_reducible assumption | with_reducible apply Turns.alloc | with_reducible apply Turns.drew))).2.2 HL2.out ?_; intro v10 w10 hown10 hgrow10 hat10; have hg10 := Gr.grow (G8.later (by repeat (first | exact Turns.refl _ _ | with_reducible assumption | with_reducible apply Turns.alloc | with_reducible apply Turns.drew))) hown10 hgrow10 hat10; obtain ⟨a10, c10, hv10, _⟩ := hg10.own.form; generalize (s.L.take i ++ ([] : List Fl)).length = n10 at hv10; subst hv10; rw [← HDE.out, ← HFT.out] at hg10; have HM10 := Lib.hid (mb_of (H0.out.trans (HN3.out.mono (fun _ _ h => h.elim))) HB3.out HR3.out hg10 ⟨HPP.out.2.1, HPP.out.2.2, HPP.out.1⟩); obtain ⟨⟨y2, yf, yl⟩, _⟩ := HALL.out w10 hg10.n; clear hown10 hgrow10 hat10 hg10))
      all_goals
        go_wp2_with fail
        go_meet
        case rel => exact ⟨a10, n10, c10, HM10.out⟩
    · rw [if_neg hci] at had
      subst had
      go_region_law
        (first
        | (refine step_append_sub (E := GE) Try.underlying61 infoG rfl (by decide) (by decide) (by rfl) _ _ (by rfl) (.slice (some ⟨_, 0, none⟩) 0 0) (.slice (some ⟨g0, o0, none⟩) i c) [] (s.L.take i) (by rfl) (by rfl) (made0G GE (by repeat (first | with_reducible assumption | with_reducible exact Blk.new _ _ _ | with_reducible apply Blk.alloc | with_reducible apply Blk.drew))) 0 (HALL.out _ (by repeat (first | with_reducible assumption | with_reducible apply Turns.alloc | with_reducible apply Turns.drew))).2.1 HL1.out ?_; intro v8 w8 hown8 hgrow8 hat8; rw [List.nil_append] at hown8; have G8 := madeG (w2 := w3) (by repeat (first | with_reducible assumption | with_reducible apply Turns.alloc | with_reducible apply Turns.drew)) (by first | exact Nat.le_refl _ | exact Nat.le_succ _ | (simp; done) | omega) hown8 hgrow8 (by first | exact hat8 | (rw [World.size_alloc]; exact hat8) | simpa using hat8); have N8 : New9 w3 w8 := G8.n; obtain ⟨⟨z2, zf, zl1⟩, _⟩ := HALL.out w8 N8; obtain ⟨a9, c9, hv9, _⟩ := G8.own.form; rw [HTL.out] at hv9; subst hv9; clear hown8 hgrow8 hat8)
        | (refine step_append_sub (E := GE) Try.underlying61 infoG rfl (by decide) (by decide) (by rfl) _ _ (by rfl) (.slice a9 i c9) (.slice (some ⟨g0, o0 + (i + 1) * 3, none⟩) (n - (i + 1)) (c - (i + 1))) (s.L.take i) (s.L.drop (i + 1)) (by rfl) (by rfl) (G8.own.turns (S := fun _ => False) (by repeat (first | exact Turns.refl _ _ | with_reducible assumption | with_reducible apply Turns.alloc | with_reducible apply Turns.drew)) (fun _ _ h => h)) 0 (HALL.out _ (by repeat (first | with_reducible assumption | with_reducible apply Turns.alloc | with_reducible apply Turns.drew))).2.2 HL2.out ?_; intro v10 w10 hown10 hgrow10 hat10; have hg10 := Gr.grow (G8.later (by repeat (first | exact Turns.refl _ _ | with_reducible assumption | with_reducible apply Turns.alloc | with_reducible apply Turns.drew))) hown10 hgrow10 hat10; obtain ⟨a10, c10, hv10, _⟩ := hg10.own.form; generalize (s.L.take i ++ s.L.drop (i + 1)).length = n10 at hv10; subst hv10; rw [← HFT.out] at hg10; have HM10 := Lib.hid (mb_of (H0.out.trans (HN3.out.mono (fun _ _ h => h.elim))) HB3.out HR3.out hg10 ⟨HPP.out.2.1, HPP.out.2.2, HPP.out.1⟩); obtain ⟨⟨y2, yf, yl⟩, _⟩ := HALL.out w10 hg10.n; clear hown10 hgrow10 hat10 hg10))
      all_goals
        go_wp2_with fail
        go_meet
        case rel => exact ⟨a10, n10, c10, HM10.out⟩
  case rest =>
    obtain ⟨a4, n4, c4, hm⟩ := hcut
    have HM := Lib.hid hm
    clear hm
    obtain ⟨⟨b0, b1, b2, b3⟩, f0, f1, f2, f3⟩ := fours HM.out.bx
    clear k0 k1 k2 k3 k4 k5 hb3 fr1 N0
    go_upto_if 29 with fail
    go_cut [] (fun wx => Mb w wx pb pr (.slice a4 n4 c4) (remS s f.id).L s.most s.turn (remS s f.id).g)
    case first =>
      cases he : (s.turn == f.id) with
      | true =>
        have HG : Hid ((remS s f.id).g = false) := Lib.hid (by
          have e : s.turn = f.id := by simpa using he
          show (s.g && (f.id != s.turn)) = false
          rw [e]; simp)
        have HM2 := Lib.hid (HM.out.set3 false)
        go_wp2_with fail
        go_meet
        case rel => rw [HG.out]; exact HM2.out
      | false =>
        have HG : Hid ((remS s f.id).g = s.g) := Lib.hid (by
          have e : ¬ s.turn = f.id := by simpa using he
          show (s.g && (f.id != s.turn)) = s.g
          have : (f.id != s.turn) = true := by simp; exact fun h => e h.symm
          rw [this, Bool.and_true])
        go_wp2_with fail
        go_meet
        case rel => rw [HG.out]; exact HM.out
    case rest =>
      have HM6 := Lib.hid hcut
      clear hcut b0 b1 b2 b3 f0 f1 f2 f3 HM
      obtain ⟨⟨b0, b1, b2, b3⟩, _⟩ := fours HM6.out.bx
      obtain ⟨⟨r0, r1, r2, r3⟩, y0, y1, y2, y3⟩ := fours HM6.out.rb
      have hne := HM6.out.lo.2.2
      have hne' := hne.symm
      have HFI := Lib.hid (HM6.out.ret)
      go_wp2_with fail
      refine (show bodyPost _ _ _ _ _ (puts wc pr 0 [.int .i64 s.most, .slice a4 n4 c4, .int .i64 s.turn, .bool (remS s f.id).g]) from ?_)
      clear b0 b1 b2 b3 r0 r1 r2 r3 y0 y1 y2 y3
      generalize puts wc pr 0 [.int .i64 s.most, .slice a4 n4 c4, .int .i64 s.turn, .bool (remS s f.id).g] = w12 at *
      obtain ⟨⟨e0, e1, e2, e3⟩, _⟩ := fours HFI.out.1
      refine bodyPost_ret (v := .tuple #[.agg #[.int .i64 s.most, .slice a4 n4 c4, .int .i64 s.turn, .bool (remS s f.id).g], .int .i64 0]) (by simp [results, Try.results93, go_sem, e0, e1, e2, e3]) rfl ?_
      exact ⟨a4, n4, c4, rfl, HFI.out.2.1, HFI.out.2.2⟩
end Go.Proofs.Ytcppibjllaablaa.drr
