/-
  Vp8Reads: any bytes are the specified descriptor, or are refused.
-/
import Derived.Test.YtjelilolimodfaaVpRef
import Derived.Test.YtjelilolimodfaaVpAwake
namespace Go.Proofs.Ytjelilolimodfaa.vp
open Go.RowKit mem rd wr oref sq
set_option linter.unusedVariables false

theorem again_parse (d : D) (hv : V d) (r : List UInt8) (hr : r.length ≤ 100) (T R : ByteArray) (hT : T = ⟨(tx d).toArray⟩) (hR : R = ⟨r.toArray⟩) (hl : (tx d).length ≤ 100) (w : World) :
    Calls Try.prog 35 #[.string (T ++ R)] w fun en w' => en = .returned (.tuple #[.agg (cells d), .string R, .int .i64 0]) ∧ New w w' := by
  subst hT hR
  rw [cat_mk]
  refine (parse ⟨(tx d ++ r).toArray⟩ w (by rw [size_mk, List.length_append]; omega)).mono ?_
  rintro e w' ⟨rfl, hw⟩
  have h := parse_text d hv r
  simp only
  unfold outD outL
  rw [h.1, h.2]
  exact ⟨rfl, hw⟩

set_option maxHeartbeats 2000000 in
theorem reads_law (s0 : ByteArray) (w : World) (hs0 : s0.size ≤ maxLen) :
    Calls Try.prog 9 #[.string s0] w fun e w' => e = .returned (.bool true) ∧ Below w.heap.size w w' := by
  have hcs := cutS_size s0 20
  have K1 := Lib.hid (fun w => cut s0 20 (by omega) w)
  generalize cutS s0 20 = s at *
  have HA := Lib.hid awake
  have HP := Lib.hid (fun w => parse s w (by omega))
  have HRP := Lib.hid (fun w => rparse s w (by omega))
  have hsl : s.data.toList.length = s.size := size_list s
  by_cases he : (pS (s.data.toList, 0)).2 = 0
  · have hv := p_V (s.data.toList, 0)
    have hlen := len_p _ he
    have hD : outD (s.data.toList, 0) = pD (s.data.toList, 0) := by unfold outD; rw [if_pos he]
    have hL : outL (s.data.toList, 0) = (pS (s.data.toList, 0)).1 := by unfold outL; rw [if_pos he]
    rw [hD, hL, he] at HP HRP
    simp only at hlen
    rw [hsl] at hlen
    clear hD hL he hsl
    generalize pD (s.data.toList, 0) = d at *
    generalize (pS (s.data.toList, 0)).1 = l at *
    obtain ⟨L, hL, hLs⟩ : ∃ L : ByteArray, L = ⟨l.toArray⟩ ∧ L.size = l.length := ⟨_, rfl, size_mk _⟩
    obtain ⟨T, hT, hTs⟩ : ∃ T : ByteArray, T = ⟨(tx d).toArray⟩ ∧ T.size = (tx d).length := ⟨_, rfl, size_mk _⟩
    have HT := Lib.hid (fun w => text d hv w)
    have HG := Lib.hid (fun w => again_parse d hv l (by omega) T L hT hL (by omega) w)
    have HC := Lib.hid (fun w => check d w)
    rw [V_chk hv] at HC
    rw [← hT] at HT
    rw [← hL] at HP HRP
    rw [← hLs, ← hTs] at hlen
    clear hT hL hTs hLs hv
    obtain ⟨y0, y1, y2, y3, y4, y5, y6, y7, y8⟩ := d
    simp only [cells] at HP HRP HT HG HC
    go_enter Try.func9, Try.ntmps9
    go_wp2_with fail
    refine (K1.out _).mono ?_
    rintro e w' ⟨rfl, rfl⟩
    go_wp2_with fail
    refine (HP.out _).mono ?_
    rintro e w1 ⟨rfl, hn1⟩
    go_wp2_with fail
    have hb2 := Blk.new w1 #[.bool y0, .bool y1, .int .i64 y2, .int .i64 y3, .bool y4, .int .i64 y5, .int .i64 y6, .bool y7, .int .i64 y8] DT
    have hn2 := hn1.alloc (.cells #[.bool y0, .bool y1, .int .i64 y2, .int .i64 y3, .bool y4, .int .i64 y5, .int .i64 y6, .bool y7, .int .i64 y8] DT)
    generalize w1.heap.size = p3 at *
    generalize w1.alloc (.cells #[.bool y0, .bool y1, .int .i64 y2, .int .i64 y3, .bool y4, .int .i64 y5, .int .i64 y6, .bool y7, .int .i64 y8] DT) = w2 at *
    refine (HRP.out _).mono ?_
    rintro e w3 ⟨rfl, hn3⟩
    have hb3 := hn3.blk hb2 (fun h => h)
    have hn3' := hn2.trans (hn3.mono (fun _ _ h => h.elim))
    clear hn1 hb2 hn2 hn3
    go_wp2_with fail
    have hb4 := hb3.alloc (.cells #[.bool y0, .bool y1, .int .i64 y2, .int .i64 y3, .bool y4, .int .i64 y5, .int .i64 y6, .bool y7, .int .i64 y8] DR)
    have hx4 := Blk.new w3 #[.bool y0, .bool y1, .int .i64 y2, .int .i64 y3, .bool y4, .int .i64 y5, .int .i64 y6, .bool y7, .int .i64 y8] DR
    have hn4 := hn3'.alloc (.cells #[.bool y0, .bool y1, .int .i64 y2, .int .i64 y3, .bool y4, .int .i64 y5, .int .i64 y6, .bool y7, .int .i64 y8] DR)
    generalize w3.heap.size = p6 at *
    generalize w3.alloc (.cells #[.bool y0, .bool y1, .int .i64 y2, .int .i64 y3, .bool y4, .int .i64 y5, .int .i64 y6, .bool y7, .int .i64 y8] DR) = w4 at *
    refine (HA.out _).mono ?_
    rintro e w5 ⟨rfl, hn5⟩
    have hb5 := hn5.blk hb4 (fun h => h)
    have hx5 := hn5.blk hx4 (fun h => h)
    have hn5' : New w w5 := hn4.trans (hn5.mono (fun _ _ h => h.elim))
    clear hb3 hn3' hb4 hx4 hn4 hn5
    obtain ⟨c0, c1, c2, c3, c4, c5, c6, c7, c8⟩ := cells9 hb5
    obtain ⟨d0, d1, d2, d3, d4, d5, d6, d7, d8⟩ := cells9 hx5
    have H5 := Lib.hid (And.intro hb5 hn5')
    clear hb5 hx5 hn5'
    have hLL : (L.toList == L.toList) = true := by simp
    go_wp2_with fail
    refine (HT.out _).mono ?_
    rintro e w6 ⟨rfl, hn6⟩
    go_wp2_with fail
    refine (HG.out _).mono ?_
    rintro e w7 ⟨rfl, hn7⟩
    have hb7 := hn7.blk (hn6.blk H5.out.1 (fun h => h)) (fun h => h)
    have hn7' : New w w7 := (H5.out.2.trans (hn6.mono (fun _ _ h => h.elim))).trans (hn7.mono (fun _ _ h => h.elim))
    have hlt7 := hb7.lt
    clear hn6 hn7 H5 c0 c1 c2 c3 c4 c5 c6 c7 c8 d0 d1 d2 d3 d4 d5 d6 d7 d8
    obtain ⟨c0, c1, c2, c3, c4, c5, c6, c7, c8⟩ := cells9 hb7
    have hb8 := hb7.alloc (.cells #[.bool y0, .bool y1, .int .i64 y2, .int .i64 y3, .bool y4, .int .i64 y5, .int .i64 y6, .bool y7, .int .i64 y8] DT)
    have hx8 := Blk.new w7 #[.bool y0, .bool y1, .int .i64 y2, .int .i64 y3, .bool y4, .int .i64 y5, .int .i64 y6, .bool y7, .int .i64 y8] DT
    have hn8 := hn7'.alloc (.cells #[.bool y0, .bool y1, .int .i64 y2, .int .i64 y3, .bool y4, .int .i64 y5, .int .i64 y6, .bool y7, .int .i64 y8] DT)
    have H8 := Lib.hid (And.intro hb8 (And.intro hx8 hn8))
    clear hb7 hn7' hb8 hx8 hn8
    go_wp2_with fail
    generalize w7.alloc (.cells #[.bool y0, .bool y1, .int .i64 y2, .int .i64 y3, .bool y4, .int .i64 y5, .int .i64 y6, .bool y7, .int .i64 y8] DT) = w8 at *
    generalize w7.heap.size = p9 at *
    refine (HC.out _).mono ?_
    rintro e w9 ⟨rfl, hn9⟩
    have hb9 := hn9.blk H8.out.1 (fun h => h)
    have hx9 := hn9.blk H8.out.2.1 (fun h => h)
    have hn9' : New w w9 := H8.out.2.2.trans (hn9.mono (fun _ _ h => h.elim))
    clear hn9 H8 c0 c1 c2 c3 c4 c5 c6 c7 c8
    obtain ⟨c0, c1, c2, c3, c4, c5, c6, c7, c8⟩ := cells9 hb9
    obtain ⟨d0, d1, d2, d3, d4, d5, d6, d7, d8⟩ := cells9 hx9
    clear hb9 hx9
    have HN9 := Lib.hid hn9'
    clear hn9'
    go_wp2_with fail
    refine (HT.out _).mono ?_
    rintro e w10 ⟨rfl, hn10⟩
    have hn10' : New w w10 := HN9.out.trans (hn10.mono (fun _ _ h => h.elim))
    have hle : (T.size : Int) ≤ (s.size : Int) - (L.size : Int) := by omega
    clear hn10 hlen
    go_wp2
    go_ret
    exact ⟨rfl, hn10'.below (Nat.le_refl _) (fun _ _ h => h.elim)⟩
  · have hD : outD (s.data.toList, 0) = zero := by unfold outD; rw [if_neg he]
    have hL : outL (s.data.toList, 0) = [] := by unfold outL; rw [if_neg he]
    rw [hD, hL] at HP HRP
    have heb : ((pS (s.data.toList, 0)).2 != 0) = true := by simp [he]
    clear hD hL he hsl
    generalize (pS (s.data.toList, 0)).2 = z at *
    simp only [cells, zero] at HP HRP
    go_enter Try.func9, Try.ntmps9
    go_wp2_with fail
    refine (K1.out _).mono ?_
    rintro e w' ⟨rfl, rfl⟩
    go_wp2_with fail
    refine (HP.out _).mono ?_
    rintro e w1 ⟨rfl, hn1⟩
    go_wp2_with fail
    have hb2 := Blk.new w1 #[.bool false, .bool false, .int .i64 0, .int .i64 0, .bool false, .int .i64 0, .int .i64 0, .bool false, .int .i64 0] DT
    have hn2 := hn1.alloc (.cells #[.bool false, .bool false, .int .i64 0, .int .i64 0, .bool false, .int .i64 0, .int .i64 0, .bool false, .int .i64 0] DT)
    generalize w1.heap.size = p3 at *
    generalize w1.alloc (.cells #[.bool false, .bool false, .int .i64 0, .int .i64 0, .bool false, .int .i64 0, .int .i64 0, .bool false, .int .i64 0] DT) = w2 at *
    refine (HRP.out _).mono ?_
    rintro e w3 ⟨rfl, hn3⟩
    have hb3 := hn3.blk hb2 (fun h => h)
    have hn3' := hn2.trans (hn3.mono (fun _ _ h => h.elim))
    clear hn1 hb2 hn2 hn3
    go_wp2_with fail
    have hb4 := hb3.alloc (.cells #[.bool false, .bool false, .int .i64 0, .int .i64 0, .bool false, .int .i64 0, .int .i64 0, .bool false, .int .i64 0] DR)
    have hx4 := Blk.new w3 #[.bool false, .bool false, .int .i64 0, .int .i64 0, .bool false, .int .i64 0, .int .i64 0, .bool false, .int .i64 0] DR
    have hn4 := hn3'.alloc (.cells #[.bool false, .bool false, .int .i64 0, .int .i64 0, .bool false, .int .i64 0, .int .i64 0, .bool false, .int .i64 0] DR)
    generalize w3.heap.size = p6 at *
    generalize w3.alloc (.cells #[.bool false, .bool false, .int .i64 0, .int .i64 0, .bool false, .int .i64 0, .int .i64 0, .bool false, .int .i64 0] DR) = w4 at *
    refine (HA.out _).mono ?_
    rintro e w5 ⟨rfl, hn5⟩
    have hb5 := hn5.blk hb4 (fun h => h)
    have hx5 := hn5.blk hx4 (fun h => h)
    have hn5' : New w w5 := hn4.trans (hn5.mono (fun _ _ h => h.elim))
    clear hb3 hn3' hb4 hx4 hn4 hn5
    obtain ⟨c0, c1, c2, c3, c4, c5, c6, c7, c8⟩ := cells9 hb5
    obtain ⟨d0, d1, d2, d3, d4, d5, d6, d7, d8⟩ := cells9 hx5
    clear hb5 hx5
    have HN5 := Lib.hid hn5'
    clear hn5'
    go_wp2
    go_ret
    exact ⟨rfl, HN5.out.below (Nat.le_refl _) (fun _ _ h => h.elim)⟩
end Go.Proofs.Ytjelilolimodfaa.vp
