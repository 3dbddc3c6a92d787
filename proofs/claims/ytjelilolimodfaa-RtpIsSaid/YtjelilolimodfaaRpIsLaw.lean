/-
  RtpIs: which datagrams begin like packets.
-/
import Derived.Test.YtjelilolimodfaaRpIsAwake
namespace Go.Proofs.Ytjelilolimodfaa.rp
open Go.RowKit mem rd oref sq
set_option linter.unusedVariables false

theorem run_bytes2 (w : World) (x y : Int) (hx : 0 ≤ x) (hx' : x ≤ 255) (hy : 0 ≤ y) (hy' : y ≤ 255) :
    (convert 25 9 (.slice (some ⟨w.heap.size, 0, none⟩) 2 2)).run Try.prog (w.alloc (.cells #[.int .u8 x, .int .u8 y] 5)) = .ok (.string ⟨#[Go.Proofs.Ytjelilolimodfaa.wr.byteOf x, Go.Proofs.Ytjelilolimodfaa.wr.byteOf y]⟩) (w.alloc (.cells #[.int .u8 x, .int .u8 y] 5)) := by
  have e1 : b8 (Go.Proofs.Ytjelilolimodfaa.wr.byteOf x) = .int .u8 x := by unfold b8; rw [Go.Proofs.Ytjelilolimodfaa.wr.byteOf_toNat]; rw [show x % 256 = x from by omega]
  have e2 : b8 (Go.Proofs.Ytjelilolimodfaa.wr.byteOf y) = .int .u8 y := by unfold b8; rw [Go.Proofs.Ytjelilolimodfaa.wr.byteOf_toNat]; rw [show y % 256 = y from by omega]
  have hb := Blk.new w #[.int .u8 x, .int .u8 y] 5
  have hh := run_loadCells_list (P := Try.prog) (w := w.alloc (.cells #[.int .u8 x, .int .u8 y] 5)) ⟨w.heap.size, 0, none⟩ [.int .u8 x, .int .u8 y] (World.news_of_block hb)
  have hc := run_bytesToString (P := Try.prog) (w.alloc (.cells #[.int .u8 x, .int .u8 y] 5)) ⟨w.heap.size, 0, none⟩ 2 2 [x, y] hh
  rw [run_convert_bytes_string (P := Try.prog) _ 25 9 5 (some ⟨w.heap.size, 0, none⟩) 2 2 Try.underlying25 Try.underlying5 Try.underlying9, hc]
  have := Go.Proofs.Ytjelilolimodfaa.wr.text_push [Go.Proofs.Ytjelilolimodfaa.wr.byteOf x, Go.Proofs.Ytjelilolimodfaa.wr.byteOf y] ByteArray.empty
  simp only [List.map_cons, List.map_nil, Go.Proofs.Ytjelilolimodfaa.wr.byteOf_toNat] at this
  rw [show x % 256 = x from by omega, show y % 256 = y from by omega] at this
  rw [this]
  rfl

set_option maxRecDepth 10000 in
set_option maxHeartbeats 2000000 in
theorem is_law (a b : Int) (s0 : ByteArray) (w : World) (ha : 0 ≤ a) (ha' : a ≤ 255) (hb : 0 ≤ b) (hb' : b ≤ 255) (hs0 : s0.size ≤ maxLen) :
    Calls Try.prog 7 #[.int .u8 a, .int .u8 b, .string s0] w fun e w' => e = .returned (.bool true) ∧ Below w.heap.size w w' := by
  have hcs := cutS_size s0 20
  have K1 := Lib.hid (fun w => cut s0 20 (by omega) w)
  generalize cutS s0 20 = s at *
  have HA := Lib.hid awake
  have hr1 := run_bytes2 w a b ha ha' hb hb'
  have hr2 : (convert 25 9 (.slice (some ⟨w.heap.size, 0, none⟩) 2 2)).run Try.prog (w.alloc (.cells #[.int .u8 a, .int .u8 b] 5)).drew = .ok (.string ⟨#[Go.Proofs.Ytjelilolimodfaa.wr.byteOf a, Go.Proofs.Ytjelilolimodfaa.wr.byteOf b]⟩) (w.alloc (.cells #[.int .u8 a, .int .u8 b] 5)).drew := run_bytes2 w.drew a b ha ha' hb hb'
  obtain ⟨H, hH⟩ : ∃ H : ByteArray, H = ⟨#[Go.Proofs.Ytjelilolimodfaa.wr.byteOf a, Go.Proofs.Ytjelilolimodfaa.wr.byteOf b]⟩ := ⟨_, rfl⟩
  rw [← hH] at hr1 hr2
  have hHs : H.size = 2 := by rw [hH]; rfl
  have hT : H ++ s = ⟨(Go.Proofs.Ytjelilolimodfaa.wr.byteOf a :: Go.Proofs.Ytjelilolimodfaa.wr.byteOf b :: s.data.toList).toArray⟩ := by
    rw [hH]
    have := cat_mk [Go.Proofs.Ytjelilolimodfaa.wr.byteOf a, Go.Proofs.Ytjelilolimodfaa.wr.byteOf b] s.data.toList
    rw [eta_mk] at this
    exact this
  have hTs : (H ++ s).size = 2 + s.size := by rw [hT, size_mk]; simp; omega
  have hb0 : bt (H ++ s) 0 = a := by
    rw [hT]; unfold bt
    rw [dif_pos (by rw [size_mk]; simp)]
    show ((Go.Proofs.Ytjelilolimodfaa.wr.byteOf a).toNat : Int) = a
    rw [Go.Proofs.Ytjelilolimodfaa.wr.byteOf_toNat]; omega
  have hb1 : bt (H ++ s) 1 = b := by
    rw [hT]; unfold bt
    rw [dif_pos (by rw [size_mk]; simp)]
    show ((Go.Proofs.Ytjelilolimodfaa.wr.byteOf b).toNat : Int) = b
    rw [Go.Proofs.Ytjelilolimodfaa.wr.byteOf_toNat]; omega
  have HI := Lib.hid (fun w => is_long (H ++ s) w (by omega) (by omega))
  rw [hb0, hb1] at HI
  have hex : ((H ++ s).extract 0 1).size = 1 := by rw [ByteArray.size_extract]; omega
  have HI1 := Lib.hid (fun w => is_short ((H ++ s).extract 0 1) w (by omega))
  have HI0 := Lib.hid (fun w => is_short ⟨#[]⟩ w (by show 0 < 2; omega))
  have HB : Hid (isB a b = (decide (a / 64 = 2) && (decide (b < 192) || decide (223 < b)))) := Lib.hid rfl
  clear hb0 hb1 hT hH hex
  have hcase : (∃ v : Bool, isB a b = v ∧ ((v = true ∧ (a / 64 == 2) = true ∧ ((decide (b < 192) = true) ∨ (decide (b < 192) = false ∧ decide (223 < b) = true))) ∨ (v = false ∧ (((a / 64 == 2) = false) ∨ ((a / 64 == 2) = true ∧ decide (b < 192) = false ∧ decide (223 < b) = false))))) := by
    refine ⟨_, rfl, ?_⟩
    rw [HB.out]
    by_cases h1 : a / 64 = 2
    · have h1' : (a / 64 == 2) = true := by simp [h1]
      rw [decide_eq_true h1, h1']
      by_cases h2 : b < 192
      · left; simp [h2]
      · rw [decide_eq_false h2]
        by_cases h3 : 223 < b
        · left; simp [h3]
        · right; simp [h3]
    · have h1' : (a / 64 == 2) = false := by simp [h1]
      right
      rw [decide_eq_false h1, h1']
      simp
  obtain ⟨v, hv, hcase⟩ := hcase
  rw [hv] at HI
  clear hv HB
  have hsz1 : (1 : Int) ≤ ((H ++ s).size : Int) := by omega
  have hsz2 : (H.size : Int) + (s.size : Int) ≤ 22 := by omega
  have HTS := Lib.hid hTs
  have HHS := Lib.hid hHs
  clear hTs hHs
  obtain ⟨T, hT⟩ : ∃ T, T = H ++ s := ⟨_, rfl⟩
  have HT := Lib.hid hT
  rw [← hT] at HI HI1 hsz1
  go_enter Try.func7, Try.ntmps7
  clear hT
  go_upto_region 1 with fail
  go_cut [2] (fun x wx => x = .string T ∧ New w wx)
  case first =>
    go_region_with (go_at_call 12; refine (K1.out _).mono ?_; rintro e w' ⟨rfl, rfl⟩)
    all_goals
      go_wp2_with fail
      go_meet
      case rel => exact ⟨by rw [HT.out], ((Turns.refl _ w).alloc _).drew⟩
  case rest =>
    obtain ⟨rfl, hn1⟩ := hcut
    clear hr1 hr2
    go_wp2_with fail
    refine (HA.out _).mono ?_
    rintro e w2 ⟨rfl, hn2⟩
    have hn2' : New w w2 := hn1.trans (hn2.mono (fun _ _ h => h.elim))
    clear hn1 hn2
    rcases hcase with ⟨rfl, h1, h2 | ⟨h2, h3⟩⟩ | ⟨rfl, h1 | ⟨h1, h2, h3⟩⟩
    all_goals
      go_wp2_with fail
      refine (HI.out _).mono ?_
      rintro e w3 ⟨rfl, rfl⟩
      go_wp2_with fail
      refine (HI1.out _).mono ?_
      rintro e w3 ⟨rfl, rfl⟩
      go_wp2_with fail
      refine (HI0.out _).mono ?_
      rintro e w3 ⟨rfl, rfl⟩
      go_wp2
      go_ret
      exact ⟨rfl, hn2'.below (Nat.le_refl _) (fun _ _ h => h.elim)⟩
end Go.Proofs.Ytjelilolimodfaa.rp
