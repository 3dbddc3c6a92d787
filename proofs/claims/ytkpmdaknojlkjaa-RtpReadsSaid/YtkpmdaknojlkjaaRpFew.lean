/-
  The law's own 'Few' of layer 3.
-/
import Derived.Test.YtkpmdaknojlkjaaRpCheck
namespace Go.Proofs.Ytkpmdaknojlkjaa.rp
open Go.RowKit mem rd wr oref sq
set_option linter.unusedVariables false

def clamp (x : Int) : Int := min (max x (-2)) 300
def few (p : P) : P := { p with cs := p.cs.take 17, data := cutS p.data 60, pay := cutS p.pay 1500, pad := clamp p.pad }
/-- fields that are what Go's types hold -/
structure G (p : P) : Prop where
  typ : 0 ≤ p.typ ∧ p.typ ≤ 255
  seq : 0 ≤ p.seq ∧ p.seq ≤ 65535
  time : 0 ≤ p.time ∧ p.time ≤ 4294967295
  ssrc : 0 ≤ p.ssrc ∧ p.ssrc ≤ 4294967295
  cs : ∀ x ∈ p.cs, 0 ≤ x ∧ x ≤ 4294967295
  csn : p.cs.length ≤ 9223372036854775807
  prof : 0 ≤ p.prof ∧ p.prof ≤ 65535
  pad : -9223372036854775808 ≤ p.pad ∧ p.pad ≤ 9223372036854775807
  data : p.data.size ≤ 9223372036854775807
  pay : p.pay.size ≤ 9223372036854775807
theorem few_F {p : P} (h : G p) : F (few p) := by
  have h1 := cutS_size p.data 60
  have h2 := cutS_size p.pay 1500
  unfold few clamp
  exact ⟨h.typ, h.seq, h.time, h.ssrc, fun x hx => h.cs x (List.mem_of_mem_take hx), by simp only [List.length_take]; omega, h.prof, by simp only; omega, Nat.le_trans h1.1 (by decide), h2.1⟩

set_option maxRecDepth 20000 in
set_option maxHeartbeats 4000000 in
theorem few_any (p : P) (hg : G p) (a : Option Addr) (n c : Nat) (hn : n = p.cs.length) (hc : n ≤ c) (hc2 : c ≤ 9223372036854775807) (hnil : n = 0 ∨ ∃ B off, a = some ⟨B, off, none⟩) (w : World) :
    Calls Try.prog 31 #[.agg (pc p (.slice a n c))] w fun e w' => e = .returned (.agg (pc (few p) (.slice a (few p).cs.length c))) ∧ New w w' := by
  have K60 : Hid (∀ s w, Calls Try.prog 12 #[.string s, .int .i64 60] w fun en w' => en = .returned (.string (cutS s 60)) ∧ w = w') := Lib.hid (fun s w => cut s 60 (by omega) w)
  have K15 : Hid (∀ s w, Calls Try.prog 12 #[.string s, .int .i64 1500] w fun en w' => en = .returned (.string (cutS s 1500)) ∧ w = w') := Lib.hid (fun s w => cut s 1500 (by omega) w)
  have HF : Hid (few p = { p with cs := p.cs.take 17, data := cutS p.data 60, pay := cutS p.pay 1500, pad := clamp p.pad }) := Lib.hid rfl
  have HFL : Hid ((few p).cs.length = min 17 p.cs.length) := Lib.hid (by unfold few; simp only [List.length_take])
  have hpad := hg.pad
  have hcsn := hg.csn
  rw [← hn] at HFL hcsn
  have HCL : Hid (clamp p.pad = min (max p.pad (-2)) 300) := Lib.hid rfl
  clear hn hg
  generalize clamp p.pad = cl at *
  obtain ⟨mrk, typ, seq, time, ssrc, cs, ext, prof, data, pay, pad⟩ := p
  simp only [pc] at *
  have hb0 := (Blk.new w #[.bool mrk, .int .u8 typ, .int .u16 seq, .int .u32 time, .int .u32 ssrc, .slice a n c, .bool ext, .int .u16 prof, .string data, .string pay, .int .i64 pad] PT).alloc (.cells #[.bool false, .int .u8 0, .int .u16 0, .int .u32 0, .int .u32 0, .slice none 0 0, .bool false, .int .u16 0, .string ⟨#[]⟩, .string ⟨#[]⟩, .int .i64 0] PT)
  have hz0 := Blk.new (w.alloc (.cells #[.bool mrk, .int .u8 typ, .int .u16 seq, .int .u32 time, .int .u32 ssrc, .slice a n c, .bool ext, .int .u16 prof, .string data, .string pay, .int .i64 pad] PT)) #[.bool false, .int .u8 0, .int .u16 0, .int .u32 0, .int .u32 0, .slice none 0 0, .bool false, .int .u16 0, .string ⟨#[]⟩, .string ⟨#[]⟩, .int .i64 0] PT
  have hn0 : New w ((w.alloc (.cells #[.bool mrk, .int .u8 typ, .int .u16 seq, .int .u32 time, .int .u32 ssrc, .slice a n c, .bool ext, .int .u16 prof, .string data, .string pay, .int .i64 pad] PT)).alloc (.cells #[.bool false, .int .u8 0, .int .u16 0, .int .u32 0, .int .u32 0, .slice none 0 0, .bool false, .int .u16 0, .string ⟨#[]⟩, .string ⟨#[]⟩, .int .i64 0] PT)) := ((Turns.refl _ _).alloc _).alloc _
  rw [World.size_alloc] at hz0
  have H0 := Lib.hid (And.intro hb0 (And.intro hz0 hn0))
  clear hb0 hz0 hn0
  go_enter Try.func31, Try.ntmps31
  go_upto_if 6 with fail
  generalize (w.alloc (.cells #[.bool mrk, .int .u8 typ, .int .u16 seq, .int .u32 time, .int .u32 ssrc, .slice a n c, .bool ext, .int .u16 prof, .string data, .string pay, .int .i64 pad] PT)).alloc (.cells #[.bool false, .int .u8 0, .int .u16 0, .int .u32 0, .int .u32 0, .slice none 0 0, .bool false, .int .u16 0, .string ⟨#[]⟩, .string ⟨#[]⟩, .int .i64 0] PT) = W0 at *
  obtain ⟨m, hm⟩ : ∃ m, m = min 17 n := ⟨_, rfl⟩
  rw [← hm] at HFL
  have hne : w.heap.size ≠ w.heap.size + 1 := by omega
  go_cut [] (fun wx => Blk wx w.heap.size #[.bool mrk, .int .u8 typ, .int .u16 seq, .int .u32 time, .int .u32 ssrc, .slice a m c, .bool ext, .int .u16 prof, .string data, .string pay, .int .i64 pad] PT ∧ Blk wx (w.heap.size + 1) #[.bool false, .int .u8 0, .int .u16 0, .int .u32 0, .int .u32 0, .slice none 0 0, .bool false, .int .u16 0, .string ⟨#[]⟩, .string ⟨#[]⟩, .int .i64 0] PT ∧ New w wx)
  case first =>
    obtain ⟨d0, d1, d2, d3, d4, d5, d6, d7, d8, d9, d10⟩ := cells11 H0.out.1
    obtain ⟨f0, f1, f2, f3, f4, f5, f6, f7, f8, f9, f10⟩ := frees11 H0.out.1
    by_cases h : 17 < n
    · have h' : decide (17 < (n : Int)) = true := decide_eq_true (by omega)
      have hm17 : m = 17 := by omega
      obtain ⟨B, off, rfl⟩ := hnil.resolve_left (by omega)
      have h17 : (17 : Int) ≤ (c : Int) := by omega
      have HM := Lib.hid hm17
      clear hm17 hm
      go_wp2_with fail
      go_meet
      case rel =>
        rw [HM.out]
        exact ⟨H0.out.1.set 5 _, H0.out.2.1.setOther (a := ⟨w.heap.size, 5, none⟩) hne _, H0.out.2.2.setCell (p := ⟨w.heap.size, 5, none⟩) (.inr (Nat.le_refl _)) _⟩
    · have h' : decide (17 < (n : Int)) = false := decide_eq_false (by omega)
      have hmn : m = n := by omega
      have HM := Lib.hid hmn
      clear hmn hm
      go_wp2_with fail
      go_meet
      case rel =>
        rw [HM.out]
        exact H0.out
  case rest =>
    have H1 := Lib.hid hcut
    clear H0 hcut hm
    obtain ⟨d0, d1, d2, d3, d4, d5, d6, d7, d8, d9, d10⟩ := cells11 H1.out.1
    obtain ⟨f0, f1, f2, f3, f4, f5, f6, f7, f8, f9, f10⟩ := frees11 H1.out.1
    go_upto_region 3 with fail
    go_cut [] (fun wx => Blk wx w.heap.size #[.bool mrk, .int .u8 typ, .int .u16 seq, .int .u32 time, .int .u32 ssrc, .slice a m c, .bool ext, .int .u16 prof, .string (cutS data 60), .string (cutS pay 1500), .int .i64 pad] PT ∧ Blk wx (w.heap.size + 1) #[.bool false, .int .u8 0, .int .u16 0, .int .u32 0, .int .u32 0, .slice none 0 0, .bool false, .int .u16 0, .string ⟨#[]⟩, .string ⟨#[]⟩, .int .i64 0] PT ∧ New w wx)
    case first =>
      go_region_with (first
        | (go_at_call 12; (with_reducible refine (K60.out data _).mono ?_); rintro e w' ⟨rfl, rfl⟩)
        | (go_at_call 12; (with_reducible refine (K15.out pay _).mono ?_); rintro e w' ⟨rfl, rfl⟩))
      all_goals
        go_wp2_with fail
        go_meet
        case rel =>
          exact ⟨(H1.out.1.set 8 (.string (cutS data 60))).set 9 (.string (cutS pay 1500)), (H1.out.2.1.setOther (a := ⟨w.heap.size, 8, none⟩) hne _).setOther (a := ⟨w.heap.size, 9, none⟩) hne _, ((H1.out.2.2.setCell (p := ⟨w.heap.size, 8, none⟩) (.inr (Nat.le_refl _)) _).setCell (p := ⟨w.heap.size, 9, none⟩) (.inr (Nat.le_refl _)) _).drew⟩
    case rest =>
      have H2 := Lib.hid hcut
      clear H1 hcut d0 d1 d2 d3 d4 d5 d6 d7 d8 d9 d10 f0 f1 f2 f3 f4 f5 f6 f7 f8 f9 f10
      obtain ⟨D2, hD2⟩ : ∃ x, x = cutS data 60 := ⟨_, rfl⟩
      obtain ⟨P2, hP2⟩ : ∃ x, x = cutS pay 1500 := ⟨_, rfl⟩
      rw [← hD2, ← hP2] at H2 HF
      clear hD2 hP2
      obtain ⟨d0, d1, d2, d3, d4, d5, d6, d7, d8, d9, d10⟩ := cells11 H2.out.1
      obtain ⟨f0, f1, f2, f3, f4, f5, f6, f7, f8, f9, f10⟩ := frees11 H2.out.1
      go_upto_region 4 with fail
      go_cut [] (fun wx => Blk wx w.heap.size #[.bool mrk, .int .u8 typ, .int .u16 seq, .int .u32 time, .int .u32 ssrc, .slice a m c, .bool ext, .int .u16 prof, .string D2, .string P2, .int .i64 cl] PT ∧ Blk wx (w.heap.size + 1) #[.bool false, .int .u8 0, .int .u16 0, .int .u32 0, .int .u32 0, .slice none 0 0, .bool false, .int .u16 0, .string ⟨#[]⟩, .string ⟨#[]⟩, .int .i64 0] PT ∧ New w wx)
      case first =>
        go_wp2_with fail
        all_goals
          go_meet
          case rel =>
            refine ⟨?_, H2.out.2.1.setOther (a := ⟨w.heap.size, 10, none⟩) hne _, H2.out.2.2.setCell (p := ⟨w.heap.size, 10, none⟩) (.inr (Nat.le_refl _)) _⟩
            first
              | (rw [show cl = pad from by rw [HCL.out]; omega]; exact H2.out.1.set 10 _)
              | (rw [show cl = -2 from by rw [HCL.out]; omega]; exact H2.out.1.set 10 _)
              | (rw [show cl = 300 from by rw [HCL.out]; omega]; exact H2.out.1.set 10 _)
      case rest =>
        obtain ⟨hb, hz, hn⟩ := hcut
        clear H2 d0 d1 d2 d3 d4 d5 d6 d7 d8 d9 d10 f0 f1 f2 f3 f4 f5 f6 f7 f8 f9 f10
        obtain ⟨d0, d1, d2, d3, d4, d5, d6, d7, d8, d9, d10⟩ := cells11 hb
        obtain ⟨z0, z1, z2, z3, z4, z5, z6, z7, z8, z9, z10⟩ := cells11 hz
        obtain ⟨f0, f1, f2, f3, f4, f5, f6, f7, f8, f9, f10⟩ := frees11 hz
        have HFB := Lib.hid (put11_blk hz (.bool mrk) (.int .u8 typ) (.int .u16 seq) (.int .u32 time) (.int .u32 ssrc) (.slice a m c) (.bool ext) (.int .u16 prof) (.string D2) (.string P2) (.int .i64 cl))
        have HN := Lib.hid (put11_turns hn (.inr (Nat.le_succ _)) (.bool mrk) (.int .u8 typ) (.int .u16 seq) (.int .u32 time) (.int .u32 ssrc) (.slice a m c) (.bool ext) (.int .u16 prof) (.string D2) (.string P2) (.int .i64 cl))
        clear hb hz hn
        go_wp2
        refine (show bodyPost _ _ _ _ _ (put11 wc (w.heap.size + 1) (.bool mrk) (.int .u8 typ) (.int .u16 seq) (.int .u32 time) (.int .u32 ssrc) (.slice a m c) (.bool ext) (.int .u16 prof) (.string D2) (.string P2) (.int .i64 cl)) from ?_)
        generalize put11 wc (w.heap.size + 1) (.bool mrk) (.int .u8 typ) (.int .u16 seq) (.int .u32 time) (.int .u32 ssrc) (.slice a m c) (.bool ext) (.int .u16 prof) (.string D2) (.string P2) (.int .i64 cl) = w11 at *
        clear z0 z1 z2 z3 z4 z5 z6 z7 z8 z9 z10
        obtain ⟨z0, z1, z2, z3, z4, z5, z6, z7, z8, z9, z10⟩ := cells11 HFB.out
        refine bodyPost_ret (v := .agg #[.bool mrk, .int .u8 typ, .int .u16 seq, .int .u32 time, .int .u32 ssrc, .slice a m c, .bool ext, .int .u16 prof, .string D2, .string P2, .int .i64 cl]) (by simp [results, Try.results31, go_sem, z0, z1, z2, z3, z4, z5, z6, z7, z8, z9, z10]) rfl ?_
        refine ⟨?_, HN.out⟩
        rw [HFL.out, HF.out]
end Go.Proofs.Ytkpmdaknojlkjaa.rp
