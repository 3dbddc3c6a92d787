/-
  rtp's law Same, for equal packets, where the program's Text is not at hand.
-/
import Derived.Test.YtijpgkkhjjpjoaaRpRefCheck
namespace Go.Proofs.Ytijpgkkhjjpjoaa.rp
open Go.RowKit mem rd wr oref sq
set_option linter.unusedVariables false

abbrev QT : TypeId := 49

set_option maxHeartbeats 2000000 in
theorem same (p : P) (a a' : Option Addr) (c c' : Nat) (w : World) (h : Row w a p.cs) (h' : Row w a' p.cs) (hn : p.cs.length ≤ 1000) :
    Calls Try.prog 13 #[.agg (pc p (.slice a p.cs.length c)), .agg (pc p (.slice a' p.cs.length c'))] w fun e w' => e = .returned (.int .i64 0) ∧ New w w' := by
  have HR := Lib.hid h
  have HR' := Lib.hid h'
  clear h h'
  obtain ⟨mrk, typ, seq, time, ssrc, cs, ext, prof, data, pay, pad⟩ := p
  simp only [pc] at *
  obtain ⟨n, hnn⟩ : ∃ n, n = cs.length := ⟨_, rfl⟩
  rw [← hnn] at hn
  have HNN := Lib.hid hnn
  rw [← hnn]
  clear hnn
  have hb1 := (Blk.new w #[.bool mrk, .int .u8 typ, .int .u16 seq, .int .u32 time, .int .u32 ssrc, .slice a n c, .bool ext, .int .u16 prof, .string data, .string pay, .int .i64 pad] PT).alloc (.cells #[.bool mrk, .int .u8 typ, .int .u16 seq, .int .u32 time, .int .u32 ssrc, .slice a' n c', .bool ext, .int .u16 prof, .string data, .string pay, .int .i64 pad] QT)
  have hb2 := Blk.new (w.alloc (.cells #[.bool mrk, .int .u8 typ, .int .u16 seq, .int .u32 time, .int .u32 ssrc, .slice a n c, .bool ext, .int .u16 prof, .string data, .string pay, .int .i64 pad] PT)) #[.bool mrk, .int .u8 typ, .int .u16 seq, .int .u32 time, .int .u32 ssrc, .slice a' n c', .bool ext, .int .u16 prof, .string data, .string pay, .int .i64 pad] QT
  have hn2 : New w ((w.alloc (.cells #[.bool mrk, .int .u8 typ, .int .u16 seq, .int .u32 time, .int .u32 ssrc, .slice a n c, .bool ext, .int .u16 prof, .string data, .string pay, .int .i64 pad] PT)).alloc (.cells #[.bool mrk, .int .u8 typ, .int .u16 seq, .int .u32 time, .int .u32 ssrc, .slice a' n c', .bool ext, .int .u16 prof, .string data, .string pay, .int .i64 pad] QT)) := ((Turns.refl _ _).alloc _).alloc _
  rw [World.size_alloc] at hb2
  go_enter Try.func13, Try.ntmps13
  go_upto_region 1 with fail
  generalize (w.alloc (.cells #[.bool mrk, .int .u8 typ, .int .u16 seq, .int .u32 time, .int .u32 ssrc, .slice a n c, .bool ext, .int .u16 prof, .string data, .string pay, .int .i64 pad] PT)).alloc (.cells #[.bool mrk, .int .u8 typ, .int .u16 seq, .int .u32 time, .int .u32 ssrc, .slice a' n c', .bool ext, .int .u16 prof, .string data, .string pay, .int .i64 pad] QT) = w2 at *
  obtain ⟨d0, d1, d2, d3, d4, d5, d6, d7, d8, d9, d10⟩ := cells11 hb1
  obtain ⟨e0, e1, e2, e3, e4, e5, e6, e7, e8, e9, e10⟩ := cells11 hb2
  have HN2 := Lib.hid (And.intro hb1 (And.intro hb2 hn2))
  clear hn2 hb1 hb2
  go_wp2_with fail
  go_loopw [16] (fun j wr => ∃ k : Nat, k ≤ n ∧ j = .int .i64 k ∧ Blk wr w.heap.size #[.bool mrk, .int .u8 typ, .int .u16 seq, .int .u32 time, .int .u32 ssrc, .slice a n c, .bool ext, .int .u16 prof, .string data, .string pay, .int .i64 pad] PT ∧ Blk wr (w.heap.size + 1) #[.bool mrk, .int .u8 typ, .int .u16 seq, .int .u32 time, .int .u32 ssrc, .slice a' n c', .bool ext, .int .u16 prof, .string data, .string pay, .int .i64 pad] QT ∧ New w wr) (fun j _ => n - (intOf j).toNat)
  case atStart => exact ⟨0, Nat.zero_le _, rfl, HN2.out⟩
  case round =>
    obtain ⟨k, hk, rfl, hw⟩ := hrel
    clear d0 d1 d2 d3 d4 d5 d6 d7 d8 d9 d10 e0 e1 e2 e3 e4 e5 e6 e7 e8 e9 e10 HN2
    obtain ⟨d0, d1, d2, d3, d4, d5, d6, d7, d8, d9, d10⟩ := cells11 hw.1
    obtain ⟨e0, e1, e2, e3, e4, e5, e6, e7, e8, e9, e10⟩ := cells11 hw.2.1
    have HN2 := Lib.hid hw
    clear hw
    by_cases hlt : k < n
    · obtain ⟨B, off, rfl, hB, hcell⟩ := HR.out.resolve_left (by rw [← HNN.out]; omega)
      obtain ⟨B', off', rfl, hB', hcell'⟩ := HR'.out.resolve_left (by rw [← HNN.out]; omega)
      have hck := (HN2.out.2.2.cell (a := ⟨B, off + k, none⟩) hB (fun h => h)).trans (hcell k (by rw [← HNN.out]; exact hlt))
      have hck' := (HN2.out.2.2.cell (a := ⟨B', off' + k, none⟩) hB' (fun h => h)).trans (hcell' k (by rw [← HNN.out]; exact hlt))
      clear hcell hcell' hB hB'
      generalize cs.getD k 0 = z at *
      go_wp2_with fail
      go_quiet (fail)
      go_wp2_with fail
      go_roundw
      case rel =>
        have hd : New _ _ := vp.Turns.drewN (Turns.refl (fun _ => False) wr) nq
        exact ⟨k + 1, by omega, by go_num, hd.blk HN2.out.1 (fun h => h), hd.blk HN2.out.2.1 (fun h => h), HN2.out.2.2.trans (hd.mono (fun _ _ h => h.elim))⟩
      case measure => simp [intOf]; omega
    · obtain rfl : k = n := by omega
      clear hk hlt
      have r1 : (data.toList == data.toList) = true := by simp
      have r2 : (pay.toList == pay.toList) = true := by simp
      go_wp2_with fail
      go_ret
      exact ⟨rfl, HN2.out.2.2⟩
end Go.Proofs.Ytijpgkkhjjpjoaa.rp
