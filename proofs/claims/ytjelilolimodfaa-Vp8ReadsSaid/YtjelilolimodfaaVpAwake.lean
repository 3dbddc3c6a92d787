/-
  'awake' of layer 4.
-/
import Derived.Test.YtjelilolimodfaaVpMath
namespace Go.Proofs.Ytjelilolimodfaa.vp
open Go.RowKit mem rd wr oref sq
set_option linter.unusedVariables false

def dA : D := { plain with st := true, pic := 5 }
theorem dA_V : V dA := by unfold dA plain; exact ⟨by simp, by simp, by simp, by simp, by simp, by simp, by simp, by simp⟩
theorem dA_tx : tx dA = [144, 128, 5] := by decide +kernel
theorem dA_key : keyB dA ⟨#[16]⟩ = true := by decide +kernel
theorem dA_nokey : keyB dA ⟨#[17]⟩ = false := by decide +kernel
theorem dA_parse (w : World) :
    Calls Try.prog 35 #[.string ⟨#[144, 128, 5, 114, 101, 115, 116]⟩] w fun en w' => en = .returned (.tuple #[.agg #[.bool false, .bool true, .int .i64 0, .int .i64 5, .bool false, .int .i64 (-1), .int .i64 (-1), .bool false, .int .i64 (-1)], .string ⟨#[114, 101, 115, 116]⟩, .int .i64 0]) ∧ New w w' := by
  refine (parse ⟨#[144, 128, 5, 114, 101, 115, 116]⟩ w (by show 7 ≤ _; omega)).mono ?_
  rintro e w' ⟨rfl, hn⟩
  have := parse_text dA dA_V [114, 101, 115, 116]
  rw [dA_tx] at this
  have e1 : ((⟨#[144, 128, 5, 114, 101, 115, 116]⟩ : ByteArray).data.toList, (0 : Int)) = (([144, 128, 5] ++ [114, 101, 115, 116] : List UInt8), (0 : Int)) := rfl
  rw [e1]
  unfold outD outL
  rw [this.1, this.2]
  exact ⟨rfl, hn⟩

set_option maxHeartbeats 2000000 in
theorem awake (w : World) :
    Calls Try.prog 37 #[] w fun e w' => e = .returned (.bool true) ∧ New w w' := by
  have HP := Lib.hid dA_parse
  have HT := Lib.hid (fun w => text dA dA_V w)
  have HK := Lib.hid (fun w => keyframe dA ⟨#[16]⟩ w)
  have HK2 := Lib.hid (fun w => keyframe dA ⟨#[17]⟩ w)
  rw [dA_tx] at HT
  rw [dA_key] at HK
  rw [dA_nokey] at HK2
  simp only [dA, cells, plain] at HT HK HK2
  go_enter Try.func37, Try.ntmps37
  go_wp2_with fail
  refine (plain_any w).mono ?_
  rintro e w1 ⟨rfl, hn1⟩
  go_wp2_with fail
  have hb2 := Blk.new w1 #[.bool false, .bool true, .int .i64 0, .int .i64 5, .bool false, .int .i64 (-1), .int .i64 (-1), .bool false, .int .i64 (-1)] DT
  have hn2 := hn1.alloc (.cells #[.bool false, .bool true, .int .i64 0, .int .i64 5, .bool false, .int .i64 (-1), .int .i64 (-1), .bool false, .int .i64 (-1)] DT)
  refine (HP.out _).mono ?_
  rintro e w3 ⟨rfl, hn3⟩
  have hb3 := hn3.blk hb2 (fun h => h)
  have hn3' : New w w3 := hn2.trans (hn3.mono (fun _ _ h => h.elim))
  have hlt := hb3.lt
  clear hb2 hn2 hn3 hn1
  generalize w1.heap.size = pd at *
  obtain ⟨c0, c1, c2, c3, c4, c5, c6, c7, c8⟩ := cells9 hb3
  have hb4 := hb3.alloc (.cells #[.bool false, .bool true, .int .i64 0, .int .i64 5, .bool false, .int .i64 (-1), .int .i64 (-1), .bool false, .int .i64 (-1)] DT)
  have he4 := Blk.new w3 #[.bool false, .bool true, .int .i64 0, .int .i64 5, .bool false, .int .i64 (-1), .int .i64 (-1), .bool false, .int .i64 (-1)] DT
  have hn4 := hn3'.alloc (.cells #[.bool false, .bool true, .int .i64 0, .int .i64 5, .bool false, .int .i64 (-1), .int .i64 (-1), .bool false, .int .i64 (-1)] DT)
  have H4 := Lib.hid (And.intro hb4 (And.intro he4 hn4))
  clear hb4 he4 hn4 hb3 hn3'
  go_wp2_with fail
  generalize w3.alloc (.cells #[.bool false, .bool true, .int .i64 0, .int .i64 5, .bool false, .int .i64 (-1), .int .i64 (-1), .bool false, .int .i64 (-1)] DT) = w4 at *
  generalize w3.heap.size = pe at *
  clear c0 c1 c2 c3 c4 c5 c6 c7 c8
  refine (HT.out _).mono ?_
  rintro e w5 ⟨rfl, hn5⟩
  have hb5 := hn5.blk H4.out.1 (fun h => h)
  have he5 := hn5.blk H4.out.2.1 (fun h => h)
  have hn5' : New w w5 := H4.out.2.2.trans (hn5.mono (fun _ _ h => h.elim))
  have H5 := Lib.hid (And.intro hb5 (And.intro he5 hn5'))
  obtain ⟨c0, c1, c2, c3, c4, c5, c6, c7, c8⟩ := cells9 hb5
  obtain ⟨d0, d1, d2, d3, d4, d5, d6, d7, d8⟩ := cells9 he5
  clear hb5 he5 hn5 hn5' H4
  have e1 : (({ data := #[144, 128, 5] } : ByteArray).toList == ({ data := #[144, 128, 5] } : ByteArray).toList) = true := by simp
  have e2 : (({ data := #[114, 101, 115, 116] } : ByteArray).toList == ({ data := #[114, 101, 115, 116] } : ByteArray).toList) = true := by simp
  go_wp2_with fail
  refine (HK.out _).mono ?_
  rintro e w6 ⟨rfl, hn6⟩
  have hb6 := hn6.blk H5.out.1 (fun h => h)
  have hn6' : New w w6 := H5.out.2.2.trans (hn6.mono (fun _ _ h => h.elim))
  clear c0 c1 c2 c3 c4 c5 c6 c7 c8 d0 d1 d2 d3 d4 d5 d6 d7 d8
  obtain ⟨c0, c1, c2, c3, c4, c5, c6, c7, c8⟩ := cells9 hb6
  clear hb6 hn6 H5
  go_wp2_with fail
  refine (HK2.out _).mono ?_
  rintro e w7 ⟨rfl, hn7⟩
  have hn7' : New w w7 := hn6'.trans (hn7.mono (fun _ _ h => h.elim))
  clear hn7 hn6'
  go_wp2
  go_ret
  exact ⟨rfl, hn7'⟩
end Go.Proofs.Ytjelilolimodfaa.vp
