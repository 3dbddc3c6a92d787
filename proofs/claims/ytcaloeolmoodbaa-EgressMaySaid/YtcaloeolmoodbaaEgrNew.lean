/-
  egress.Out: Check, New, Credit, Broken, Spend.
-/
import Derived.Test.YtcaloeolmoodbaaEgrSeq
import Derived.Deep.DeepCutAuto
namespace Go.Proofs.Ytcaloeolmoodbaa.egr
open Go.RowKit mem Go.Maps
set_option linter.unusedVariables false

abbrev CT : TypeId := 77
def Va (a b c d g : Int) : Prop := (1 ≤ a ∧ a ≤ 1024) ∧ (1 ≤ b ∧ b ≤ 16777216) ∧ (1 ≤ c ∧ c ≤ 1099511627776) ∧ (1 ≤ d ∧ d ≤ 16777216) ∧ (1 ≤ g ∧ g ≤ 1024)
theorem five {w : World} {p : Nat} {a b c d e : Value} {T : TypeId} (h : Blk w p #[a, b, c, d, e] T) :
    w.cell? ⟨p, 0, none⟩ = some a ∧ w.cell? ⟨p, 1, none⟩ = some b ∧ w.cell? ⟨p, 2, none⟩ = some c ∧ w.cell? ⟨p, 3, none⟩ = some d ∧ w.cell? ⟨p, 4, none⟩ = some e := ⟨h.cell 0, h.cell 1, h.cell 2, h.cell 3, h.cell 4⟩
theorem nine {w : World} {p : Nat} {a b c d e f g h i : Value} {T : TypeId} (k : Blk w p #[a, b, c, d, e, f, g, h, i] T) :
    (w.cell? ⟨p, 0, none⟩ = some a ∧ w.cell? ⟨p, 1, none⟩ = some b ∧ w.cell? ⟨p, 2, none⟩ = some c ∧ w.cell? ⟨p, 3, none⟩ = some d ∧ w.cell? ⟨p, 4, none⟩ = some e ∧ w.cell? ⟨p, 5, none⟩ = some f ∧ w.cell? ⟨p, 6, none⟩ = some g ∧ w.cell? ⟨p, 7, none⟩ = some h ∧ w.cell? ⟨p, 8, none⟩ = some i)
    ∧ w.frozen? ⟨p, 7, none⟩ = false ∧ w.frozen? ⟨p, 8, none⟩ = false :=
  ⟨⟨k.cell 0, k.cell 1, k.cell 2, k.cell 3, k.cell 4, k.cell 5, k.cell 6, k.cell 7, k.cell 8⟩, k.free 7, k.free 8⟩
abbrev cfg (a b c d g : Int) : Array Value := #[.int .i64 a, .int .i64 b, .int .i64 c, .int .i64 d, .int .i64 g]
set_option maxRecDepth 10000 in
set_option maxHeartbeats 2000000 in
theorem check_bad (a b c d g : Int) (w : World) (h : ¬ Va a b c d g) :
    Calls Try.prog 38 #[.agg (cfg a b c d g)] w fun e w' => e = .returned (.int .i64 5) ∧ New w w' := by
  have hb : Blk (w.alloc (.cells (cfg a b c d g) CT)) w.heap.size (cfg a b c d g) CT := Blk.new _ _ _
  obtain ⟨c0, c1, c2, c3, c4⟩ := five hb
  have HN : Hid (New w (w.alloc (.cells (cfg a b c d g) CT))) := Lib.hid ((Turns.refl _ _).alloc _)
  clear hb
  go_enter Try.func38, Try.ntmps38
  by_cases l0 : a < 1
  · have dl0 : decide (a < 1) = true := decide_eq_true l0
    clear h l0
    go_wp2
    go_ret
    exact ⟨rfl, HN.out⟩
  · have dl0 : decide (a < 1) = false := decide_eq_false l0
    by_cases u0 : 1024 < a
    · have du0 : decide (1024 < a) = true := decide_eq_true u0
      clear h u0
      go_wp2
      go_ret
      exact ⟨rfl, HN.out⟩
    · have du0 : decide (1024 < a) = false := decide_eq_false u0
      by_cases l1 : b < 1
      · have dl1 : decide (b < 1) = true := decide_eq_true l1
        clear h l1
        go_wp2
        go_ret
        exact ⟨rfl, HN.out⟩
      · have dl1 : decide (b < 1) = false := decide_eq_false l1
        by_cases u1 : 16777216 < b
        · have du1 : decide (16777216 < b) = true := decide_eq_true u1
          clear h u1
          go_wp2
          go_ret
          exact ⟨rfl, HN.out⟩
        · have du1 : decide (16777216 < b) = false := decide_eq_false u1
          by_cases l2 : c < 1
          · have dl2 : decide (c < 1) = true := decide_eq_true l2
            clear h l2
            go_wp2
            go_ret
            exact ⟨rfl, HN.out⟩
          · have dl2 : decide (c < 1) = false := decide_eq_false l2
            by_cases u2 : 1099511627776 < c
            · have du2 : decide (1099511627776 < c) = true := decide_eq_true u2
              clear h u2
              go_wp2
              go_ret
              exact ⟨rfl, HN.out⟩
            · have du2 : decide (1099511627776 < c) = false := decide_eq_false u2
              by_cases l3 : d < 1
              · have dl3 : decide (d < 1) = true := decide_eq_true l3
                clear h l3
                go_wp2
                go_ret
                exact ⟨rfl, HN.out⟩
              · have dl3 : decide (d < 1) = false := decide_eq_false l3
                by_cases u3 : 16777216 < d
                · have du3 : decide (16777216 < d) = true := decide_eq_true u3
                  clear h u3
                  go_wp2
                  go_ret
                  exact ⟨rfl, HN.out⟩
                · have du3 : decide (16777216 < d) = false := decide_eq_false u3
                  by_cases l4 : g < 1
                  · have dl4 : decide (g < 1) = true := decide_eq_true l4
                    clear h l4
                    go_wp2
                    go_ret
                    exact ⟨rfl, HN.out⟩
                  · have dl4 : decide (g < 1) = false := decide_eq_false l4
                    by_cases u4 : 1024 < g
                    · have du4 : decide (1024 < g) = true := decide_eq_true u4
                      clear h u4
                      go_wp2
                      go_ret
                      exact ⟨rfl, HN.out⟩
                    · have du4 : decide (1024 < g) = false := decide_eq_false u4
                      exact absurd ⟨⟨by omega, by omega⟩, ⟨by omega, by omega⟩, ⟨by omega, by omega⟩, ⟨by omega, by omega⟩, by omega, by omega⟩ h
set_option maxRecDepth 10000 in
set_option maxHeartbeats 1000000 in
theorem check_ok (a b c d g : Int) (w : World) (h : Va a b c d g) :
    Calls Try.prog 38 #[.agg (cfg a b c d g)] w fun e w' => e = .returned (.int .i64 0) ∧ New w w' := by
  have hb : Blk (w.alloc (.cells (cfg a b c d g) CT)) w.heap.size (cfg a b c d g) CT := Blk.new _ _ _
  obtain ⟨c0, c1, c2, c3, c4⟩ := five hb
  have HN : Hid (New w (w.alloc (.cells (cfg a b c d g) CT))) := Lib.hid ((Turns.refl _ _).alloc _)
  obtain ⟨⟨a0, a1⟩, ⟨b0, b1⟩, ⟨x0, x1⟩, ⟨d0, d1⟩, g0, g1⟩ := h
  have dl0 : decide (a < 1) = false := decide_eq_false (by omega)
  have du0 : decide (1024 < a) = false := decide_eq_false (by omega)
  have dl1 : decide (b < 1) = false := decide_eq_false (by omega)
  have du1 : decide (16777216 < b) = false := decide_eq_false (by omega)
  have dl2 : decide (c < 1) = false := decide_eq_false (by omega)
  have du2 : decide (1099511627776 < c) = false := decide_eq_false (by omega)
  have dl3 : decide (d < 1) = false := decide_eq_false (by omega)
  have du3 : decide (16777216 < d) = false := decide_eq_false (by omega)
  have dl4 : decide (g < 1) = false := decide_eq_false (by omega)
  have du4 : decide (1024 < g) = false := decide_eq_false (by omega)
  clear hb a0 a1 b0 b1 x0 x1 d0 d1 g0 g1
  go_enter Try.func38, Try.ntmps38
  go_wp2
  go_ret
  exact ⟨rfl, HN.out⟩

def fresh (a b c d g : Int) : Eo := ⟨a, b, c, d, g, 0, 0, [], drr.fresh d⟩
structure Made (w w' : World) (A : Ad) (k : Nat) (e : Eo) : Prop where
  es : Es w' A k e
  n : New w w'
  o0 : w.heap.size ≤ A.o
  m0 : w.heap.size ≤ A.mb
  s0 : w.heap.size ≤ A.sp
  t0 : w.heap.size ≤ A.smb
  f0 : ∀ f ∈ e.L, w.heap.size ≤ f.fb ∧ w.heap.size ≤ f.qb ∧ ∀ x, f.pv.ownBlock = some x → w.heap.size ≤ x
  g0 : ∀ f ∈ e.s.L, w.heap.size ≤ f.b
theorem Made.later {w w1 w2 : World} {A : Ad} {k : Nat} {e : Eo} (h : Made w w1 A k e) (n : New w1 w2) : Made w w2 A k e :=
  ⟨h.es.later n, h.n.trans (n.mono (fun _ _ h => h.elim)), h.o0, h.m0, h.s0, h.t0, h.f0, h.g0⟩
set_option maxRecDepth 10000 in
theorem new_bad (a b c d g : Int) (w : World) (h : ¬ Va a b c d g) :
    Calls Try.prog 37 #[.agg (cfg a b c d g)] w fun e w' => e = .returned (.tuple #[.pointer none, .int .i64 5]) ∧ New w w' := by
  have hb : Blk (w.alloc (.cells (cfg a b c d g) CT)) w.heap.size (cfg a b c d g) CT := Blk.new _ _ _
  obtain ⟨c0, c1, c2, c3, c4⟩ := five hb
  have HC := Lib.hid (check_bad a b c d g (w.alloc (.cells (cfg a b c d g) CT)) h)
  have HN : Hid (New w (w.alloc (.cells (cfg a b c d g) CT))) := Lib.hid ((Turns.refl _ _).alloc _)
  clear hb h
  go_enter Try.func37, Try.ntmps37
  go_wp2_with fail
  refine HC.out.mono ?_
  rintro e w1 ⟨rfl, n1⟩
  have HN1 : Hid (New w w1) := Lib.hid (HN.out.trans (n1.mono (fun _ _ h => h.elim)))
  clear n1
  go_wp2
  go_ret2
  exact ⟨rfl, HN1.out⟩
set_option maxRecDepth 10000 in
set_option maxHeartbeats 1000000 in
theorem new_ok (a b c d g : Int) (w : World) (h : Va a b c d g) :
    Calls Try.prog 37 #[.agg (cfg a b c d g)] w fun e w' => ∃ A : Ad, e = .returned (.tuple #[.pointer (some ⟨A.o, 0, none⟩), .int .i64 0]) ∧ Made w w' A 0 (fresh a b c d g) := by
  have hmm := @run_makeMap Try.prog
  have hb : Blk (w.alloc (.cells (cfg a b c d g) CT)) w.heap.size (cfg a b c d g) CT := Blk.new _ _ _
  obtain ⟨c0, c1, c2, c3, c4⟩ := five hb
  have HB := Lib.hid hb
  have HC := Lib.hid (check_ok a b c d g (w.alloc (.cells (cfg a b c d g) CT)) h)
  have HN : Hid (New w (w.alloc (.cells (cfg a b c d g) CT))) := Lib.hid ((Turns.refl _ _).alloc _)
  have HV := Lib.hid h
  have HD := Lib.hid (fun W => drr.new_ok d W h.2.2.2.1.1 h.2.2.2.1.2)
  clear hb h
  go_enter Try.func37, Try.ntmps37
  go_wp2_with fail
  refine HC.out.mono ?_
  rintro e w1 ⟨rfl, n1⟩
  have HN1 : Hid (New w w1) := Lib.hid (HN.out.trans (n1.mono (fun _ _ h => h.elim)))
  have hb1 := n1.blk HB.out (fun h => h)
  have HB1 := Lib.hid hb1
  clear c0 c1 c2 c3 c4 n1 HC
  obtain ⟨c0, c1, c2, c3, c4⟩ := five hb1
  clear hb1 HB
  go_wp2_with fail
  refine (HD.out _).mono ?_
  rintro e w2 ⟨sp, rfl, hs, n2, hsp⟩
  have hb2 := n2.blk HB1.out (fun h => h)
  have HS := Lib.hid hs
  have HN2 : Hid (New w w2) := Lib.hid (HN1.out.trans (n2.mono (fun _ _ h => h.elim)))
  have HW1 : Hid (w.heap.size ≤ w1.heap.size ∧ w1.heap.size ≤ sp) := Lib.hid ⟨HN1.out.size, hsp⟩
  clear c0 c1 c2 c3 c4 n2 hs hsp
  obtain ⟨c0, c1, c2, c3, c4⟩ := five hb2
  clear hb2 HB1 HD
  generalize w1.heap.size = smb at *
  go_wp2
  go_ret2
  have e1 : (w2.alloc (.map #[] 0)).heap.size = w2.heap.size + 1 := by unfold World.alloc; exact Array.size_push _
  have hbo := Blk.new (w2.alloc (.map #[] 0)) (cells (fresh a b c d g) ⟨w2.heap.size + 1, w2.heap.size, sp, smb⟩) OB
  rw [e1] at hbo
  have k1 : New w2 ((w2.alloc (.map #[] 0)).alloc (.cells (cells (fresh a b c d g) ⟨w2.heap.size + 1, w2.heap.size, sp, smb⟩) OB)) := ((Turns.refl _ _).alloc _).alloc _
  have hml := HS.out.mlt
  have hn2 := HN2.out.size
  have hv := HV.out
  refine ⟨⟨w2.heap.size + 1, w2.heap.size, sp, smb⟩, rfl, ⟨hbo, ⟨0, .map [], Nat.le_refl _, (World.ownsMap_made _ _ _ _).alloc _, ⟨(fun id => rfl), (fun f hf => by cases hf)⟩⟩, (fun f hf => by cases hf), (fun f hf => by cases hf), ⟨0, .map [], Nat.le_refl _, HS.out.later k1⟩, List.Pairwise.nil, (by show w2.heap.size ≠ smb; omega), (fun f hf => by cases hf), ⟨hv.1.1, hv.1.2, hv.2.1.1, hv.2.1.2, hv.2.2.1.1, hv.2.2.1.2, hv.2.2.2.1.1, hv.2.2.2.1.2, hv.2.2.2.2.1, hv.2.2.2.2.2, Int.le_refl _, (by show (0 : Int) ≤ _; omega)⟩, (fun f hf => by cases hf), rfl, (fun id => ⟨(fun ⟨f, hf, _⟩ => by cases hf), (fun ⟨f, hf, _⟩ => by cases hf)⟩)⟩, HN2.out.trans (k1.mono (fun _ _ h => h.elim)), (by show w.heap.size ≤ w2.heap.size + 1; omega), hn2, (by have := HW1.out; show w.heap.size ≤ sp; omega), HW1.out.1, (fun f hf => by cases hf), (fun f hf => by cases hf)⟩

theorem credit (A : Ad) (k : Nat) (e : Eo) (w : World) (h : Es w A k e) : Calls Try.prog 41 #[.pointer (some ⟨A.o, 0, none⟩)] w fun x w' => x = .returned (.int .i64 e.credit) ∧ w' = w := by
  have c7 := h.blk.cell 7
  clear h
  go_enter Try.func41, Try.ntmps41
  go_wp2
  go_ret
  exact ⟨rfl, rfl⟩
section
variable {w : World} {mb c : Nat} {D : DataW Unit} {id : Int}
theorem look_ok_at (h : w.ownsMap Try.prog 3 drr.ptrE mb c D) (n0 : -9223372036854775808 ≤ id) (n1 : id ≤ 9223372036854775807) {b : Nat} (hb : ∀ z, D.atKey (.int .i64 id) z = .lit (.int .i64 b)) :
    (Instr.lookup MT (.map (some mb)) (.int .i64 id) true).run Try.prog w = .ok (.tuple #[.pointer (some ⟨b, 0, none⟩), .bool true]) w := by
  obtain ⟨v, ps, hrun, hv⟩ := h.look_ok drr.lawI Try.underlying144 (zeroP w) (zd := .lit (.int .i64 (-1))) (zp := []) rfl (drr.keyI n0 n1)
  rw [hb] at hv
  rw [drr.ptrE_inv hv, has_true_of_atKey hb] at hrun
  exact hrun
theorem look_ok_none (h : w.ownsMap Try.prog 3 drr.ptrE mb c D) (n0 : -9223372036854775808 ≤ id) (n1 : id ≤ 9223372036854775807) (hb : has D (.int .i64 id) = false) :
    (Instr.lookup MT (.map (some mb)) (.int .i64 id) true).run Try.prog w = .ok (.tuple #[.pointer none, .bool false]) w := by
  obtain ⟨v, ps, hrun, hv⟩ := h.look_ok drr.lawI Try.underlying144 (zeroP w) (zd := .lit (.int .i64 (-1))) (zp := []) rfl (drr.keyI n0 n1)
  rw [atKey_of_not_has hb] at hv
  rw [drr.ptrE_nil hv, hb] at hrun
  exact hrun
end
theorem Es.look {w : World} {A : Ad} {k : Nat} {e : Eo} (h : Es w A k e) {f : Ef} (hf : f ∈ e.L) : (Instr.lookup MT (.map (some A.mb)) (.int .i64 f.id) true).run Try.prog w = .ok (.tuple #[.pointer (some ⟨f.fb, 0, none⟩), .bool true]) w := by
  obtain ⟨c, D, _, hm, hr⟩ := h.map
  exact look_ok_at hm (h.rg f hf).1 (h.rg f hf).2 (hr.at_ f hf)
theorem Es.look_none {w : World} {A : Ad} {k : Nat} {e : Eo} (h : Es w A k e) {id : Int} (hf : fnd e.L id = none) (n0 : -9223372036854775808 ≤ id) (n1 : id ≤ 9223372036854775807) : (Instr.lookup MT (.map (some A.mb)) (.int .i64 id) true).run Try.prog w = .ok (.tuple #[.pointer none, .bool false]) w := by
  obtain ⟨c, D, _, hm, hr⟩ := h.map
  exact look_ok_none hm n0 n1 (by rw [hr.has id, hf]; rfl)
theorem broken_some (A : Ad) (k : Nat) (e : Eo) (f : Ef) (w : World) (h : Es w A k e) (hf : f ∈ e.L) : Calls Try.prog 40 #[.pointer (some ⟨A.o, 0, none⟩), .int .i64 f.id] w fun x w' => x = .returned (.bool f.q.broken) ∧ w' = w := by
  have c5 := h.blk.cell 5
  have hr := h.look hf
  have HB := Lib.hid (que.broken f.qb f.pv f.q w (h.qs f hf))
  obtain ⟨⟨f0, f1⟩, _⟩ := drr.two (h.fb f hf)
  clear h
  go_enter Try.func40, Try.ntmps40
  go_wp2_with fail
  refine HB.out.mono ?_
  rintro x w1 ⟨rfl, rfl⟩
  go_wp2
  go_ret
  exact ⟨rfl, rfl⟩
end Go.Proofs.Ytcaloeolmoodbaa.egr
