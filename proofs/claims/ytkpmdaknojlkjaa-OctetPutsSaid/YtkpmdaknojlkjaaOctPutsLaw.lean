/-
  OctetPuts: any numbers and bytes are written.
-/
import Derived.Test.YtkpmdaknojlkjaaOctNow
import Derived.Deep.RegionHeld3
import Derived.Test.YtkpmdaknojlkjaaOctOrd
import Derived.Deep.DeepCutAuto
namespace Go.Proofs.Ytkpmdaknojlkjaa.oref
open Go.RowKit mem rd wr
set_option linter.unusedVariables false

theorem Wrote.grow {w w1 w2 : World} {p : Nat} {q : Option Nat} {ys : List UInt8} (h : Wrote w w1 p q ys) (hn : New w1 w2) : Wrote w w2 p q ys := by
  obtain ⟨q1, hb, ht, hq⟩ := h
  exact ⟨q1, hb.turns hn (fun h => h) (fun _ _ h => h), ht.trans (hn.mono (fun _ _ h => h.elim)), hq⟩
theorem Wrote.drewn {w w1 : World} {p : Nat} {q : Option Nat} {ys : List UInt8} (h : Wrote w w1 p q ys) : Wrote w w1.drew p q ys := by
  obtain ⟨q1, hb, ht, hq⟩ := h
  exact ⟨q1, hb, ht.drew, hq⟩

theorem pad_any (p : Nat) (T : Int) (t : Nat) (hT : (T < 1 ∧ t = 1) ∨ (T = (t : Int) ∧ 1 ≤ t)) (ht : t ≤ 64) (q : Option Nat) (xs : List UInt8) (w : World) (h : Wr w p q xs) (hmax : xs.length ≤ 70368744177664) :
    Calls Try.prog 20 #[.pointer (some ⟨p, 0, none⟩), .int .i64 T] w fun en w' => en = .returned (.pointer (some ⟨p, 0, none⟩)) ∧ Wrote w w' p q (xs ++ List.replicate (padN xs.length t) 0) := by
  rcases hT with ⟨h1, rfl⟩ | ⟨rfl, h1⟩
  · have e : padN xs.length 1 = 0 := by unfold padN; omega
    rw [e, List.replicate_zero, List.append_nil]
    exact pad_one p q xs T w h (by omega)
  · exact pad_nat p q xs t w h h1 (by omega) hmax

theorem lt_alloc {W : World} {o : Obj} {b : Nat} (h : b < W.heap.size) : b < (W.alloc o).heap.size := by simp; omega
theorem lt_drew {W : World} {b : Nat} (h : b < W.heap.size) : b < W.drew.heap.size := h
set_option maxRecDepth 100000 in
set_option maxHeartbeats 20000000 in
theorem puts_law (a : Option Addr) (m c : Nat) (z : Nat → Int) (n : Int) (s0 : ByteArray) (tt : Int) (w : World) (hz : args.IntRow .u64 w a m c z) (_ : -9223372036854775808 ≤ n) (_ : n ≤ 9223372036854775807) (hs0 : s0.size ≤ maxLen) (_ : -9223372036854775808 ≤ tt) (_ : tt ≤ 9223372036854775807) :
    Calls Try.prog 3 #[.slice a m c, .int .i64 n, .string s0, .int .i64 tt] w fun e w' => e = .returned (.bool true) ∧ Below w.heap.size w w' := by
  obtain ⟨hn, hok, hcell⟩ := hz
  unfold maxLen at hn hs0
  have HOK := Lib.hid hok
  clear hok
  have HC := Lib.hid hcell
  clear hcell
  have hcs := cutS_size s0 40
  have K1 := Lib.hid (fun w => cut s0 40 (by omega) w)
  generalize cutS s0 40 = s at *
  obtain ⟨l, rfl⟩ : ∃ l : List UInt8, s = ⟨l.toArray⟩ := ⟨_, (eta_mk s).symm⟩
  rw [size_mk] at hcs
  obtain ⟨N, hlim, hN1, hN8⟩ : ∃ N : Nat, rd.lim n = (N : Int) ∧ 1 ≤ N ∧ N ≤ 8 := ⟨(rd.lim n).toNat, by unfold rd.lim; omega, by unfold rd.lim; omega, by unfold rd.lim; omega⟩
  have HL := Lib.hid hlim
  clear hlim
  obtain ⟨T, hT⟩ : ∃ T : Int, T = min tt 64 := ⟨_, rfl⟩
  have HT0 := Lib.hid hT
  clear hT
  go_enter Try.func3, Try.ntmps3
  go_upto_region 2 with (go_at_call 12; refine (K1.out _).mono ?_; rintro e w' ⟨rfl, rfl⟩)
  go_cut [3] (fun v wx => v = .int .i64 T ∧ w = wx)
  case first =>
    go_wp2_with fail
    all_goals
      go_meet
      exact ⟨congrArg (Value.int .i64) (by have := HT0.out; omega), rfl⟩
  case rest =>
    obtain ⟨rfl, rfl⟩ := hcut
    clear K1
    obtain ⟨t, htc, ht64, ht1⟩ : ∃ t : Nat, ((T < 1 ∧ t = 1) ∨ (T = (t : Int) ∧ 1 ≤ t)) ∧ t ≤ 64 ∧ 1 ≤ t := by
      have := HT0.out
      by_cases h : T < 1
      · exact ⟨1, .inl ⟨h, rfl⟩, by omega, by omega⟩
      · exact ⟨T.toNat, .inr ⟨by omega, by omega⟩, by omega, by omega⟩
    have HTC := Lib.hid htc
    clear htc
    go_wp2_with (go_at_call 13; refine (awake _).mono ?_; rintro e w1 ⟨rfl, hn1⟩)
    have HW : Hid (Wrote (w1.alloc (.cells #[.slice none 0 0] 27)) (w1.alloc (.cells #[.slice none 0 0] 27)) w1.heap.size none []) := Lib.hid (Wrote.refl (fresh (Blk.new w1 _ _)))
    have hb1 := (hn1.below (B := w.heap.size) (Nat.le_refl _) (fun _ _ h => h.elim)).alloc hn1.size (.cells #[.slice none 0 0] 27)
    have hsz : w1.heap.size < (w1.alloc (.cells #[.slice none 0 0] 27)).heap.size := by simp
    have hp := hn1.size
    obtain ⟨p, hpp⟩ : ∃ p, p = w1.heap.size := ⟨_, rfl⟩
    rw [← hpp] at HW hsz hp ⊢
    generalize w1.alloc (.cells #[.slice none 0 0] 27) = W0 at *
    clear hpp hn1
    go_loopw [10, 11] (fun v i wr => ∃ k : Nat, k ≤ m ∧ k ≤ 10 ∧ i = .int .i64 k ∧ v = .string ⟨(upto N z k).toArray⟩ ∧ Wrote W0 wr p none (upto N z k)) (fun _ i _ => m - (intOf i).toNat)
    case atStart => exact ⟨0, Nat.zero_le _, by omega, rfl, rfl, HW.out⟩
    case round =>
      clear HW
      obtain ⟨k, hk, hk10, rfl, rfl, hwr⟩ := hrel
      have hul := upto_length N z k
      have hub : (upto N z k).length ≤ 230 := by
        rw [hul]
        calc k * (2 * N + 7) ≤ 10 * (2 * N + 7) := Nat.mul_le_mul_right _ hk10
          _ ≤ 230 := by omega
      clear hul
      have HS := Lib.hid (upto_succ N z k)
      generalize upto N z k = Y at *
      have HWR := Lib.hid hwr
      clear hwr
      by_cases hgo : k < m ∧ k < 10
      · obtain ⟨hlt, hlt2⟩ := hgo
        obtain ⟨b, off, rfl, hbw, hcell⟩ := HC.out.resolve_left (by omega)
        have hzz := bounds_u64 (HOK.out k hlt)
        have hbW : b < W0.heap.size := by have := hb1.size; omega
        have hck : wr.cell? ⟨b, off + k, none⟩ = some (.int .u64 (z k)) := (HWR.out.turns.cell hbW (by rintro (h | h); exact absurd h (by show ¬ b = p; omega); cases h)).trans ((hb1.cell hbw).trans (hcell k hlt))
        clear hcell HC
        have hk1 : (k : Int) < (m : Int) := by omega
        have hk2 : (0 : Int) ≤ (k : Int) := by omega
        generalize z k = x at *
        have hx0 : 0 ≤ x ∧ x ≤ 18446744073709551615 := hzz
        obtain ⟨hz0, hz1⟩ := hzz
        have h8 : 0 ≤ x % 256 ∧ x % 256 ≤ 255 := by omega
        have h16 : 0 ≤ x % 65536 ∧ x % 65536 ≤ 65535 := by omega
        have h32 : 0 ≤ x % 4294967296 ∧ x % 4294967296 ≤ 4294967295 := by omega
        have e16 : IntKind.u16.wrap x = x % 65536 := by simp [IntKind.wrap, IntKind.bits, IntKind.signed]
        have e32 : IntKind.u32.wrap x = x % 4294967296 := by simp [IntKind.wrap, IntKind.bits, IntKind.signed]
        have e8 : IntKind.u8.wrap x = x % 256 := by simp [IntKind.wrap, IntKind.bits, IntKind.signed]
        have hnow := Now.of HWR.out
        have H8 := Lib.hid h8
        have H16 := Lib.hid h16
        have H32 := Lib.hid h32
        have HX := Lib.hid hx0
        have HN := Lib.hid hnow
        have hbr : b < wr.heap.size := (Now.cell hnow (o := 0) hbW (by omega)).2
        have HBP : Hid (b ≠ p) := Lib.hid (by omega)
        have HCK : Hid (W0.cell? ⟨b, off + k, none⟩ = some (.int .u64 x)) := Lib.hid (by rw [← (Now.cell hnow (o := off + k) hbW HBP.out).1]; exact hck)
        clear h8 h16 h32 hx0 hnow HWR
        go_upto_region 10 with fail
        go_cut [11] (fun v wx => v = .int .i64 k ∧ Wrote W0 wx p none (Y ++ one N x))
        case first =>
          clear HOK HT0 HTC hcs hs0 hn HS hb1
          refine wp_region_held_drew (S := fun w' => w'.cell? ⟨b, off + k, none⟩ = some (.int .u64 x)) (by kernel_rfl) ?_ (fun hHeld => ?_)
          · exact hck
          refine wpAnyH_take (i := 0) (v := ?_) (ord.take_of rfl) (by kernel_rfl) (by kernel_rfl) (by kernel_rfl) (fun _ _ _ h => h) (Or.inl ⟨by rfl, ?_⟩) (by assumption) ?_
          rotate_left
          · intro w hSw
            (try dsimp only at hSw)
            go_simp
            (try with_reducible rfl)
          (try simp only [Act.put, List.setIfInBounds_toArray, List.set_cons_zero, List.set_cons_succ])
          refine wpAnyH_take (i := 1) (v := ?_) (ord.take_of rfl) (by kernel_rfl) (by kernel_rfl) (by kernel_rfl) (fun _ _ _ h => h) (Or.inl ⟨by rfl, ?_⟩) (by assumption) ?_
          rotate_left
          · intro w hSw
            (try dsimp only at hSw)
            go_simp
            (try with_reducible rfl)
          (try simp only [Act.put, List.setIfInBounds_toArray, List.set_cons_zero, List.set_cons_succ])
          refine wpAnyH_take (i := 2) (v := ?_) (ord.take_of rfl) (by kernel_rfl) (by kernel_rfl) (by kernel_rfl) (fun _ _ _ h => h) (Or.inl ⟨by rfl, ?_⟩) (by assumption) ?_
          rotate_left
          · intro w hSw
            (try dsimp only at hSw)
            go_simp
            (try with_reducible rfl)
          (try simp only [Act.put, List.setIfInBounds_toArray, List.set_cons_zero, List.set_cons_succ])
          refine wpAnyH_take (i := 3) (v := ?_) (ord.take_of rfl) (by kernel_rfl) (by kernel_rfl) (by kernel_rfl) (fun _ _ _ h => h) (Or.inl ⟨by rfl, ?_⟩) (by assumption) ?_
          rotate_left
          · intro w hSw
            (try dsimp only at hSw)
            go_simp
            (try with_reducible rfl)
          (try simp only [Act.put, List.setIfInBounds_toArray, List.set_cons_zero, List.set_cons_succ])
          refine wpAnyH_take (i := 4) (v := ?_) (ord.take_of rfl) (by kernel_rfl) (by kernel_rfl) (by kernel_rfl) (fun _ _ _ h => h) (Or.inl ⟨by rfl, ?_⟩) (by assumption) ?_
          rotate_left
          · intro w hSw
            (try dsimp only at hSw)
            go_simp
            (try with_reducible rfl)
          (try simp only [Act.put, List.setIfInBounds_toArray, List.set_cons_zero, List.set_cons_succ])
          refine wpAnyH_take (i := 5) (v := ?_) (ord.take_of rfl) (by kernel_rfl) (by kernel_rfl) (by kernel_rfl) (fun _ _ _ h => h) (Or.inl ⟨by rfl, ?_⟩) (by assumption) ?_
          rotate_left
          · intro w hSw
            (try dsimp only at hSw)
            go_simp
            (try with_reducible rfl)
          (try simp only [Act.put, List.setIfInBounds_toArray, List.set_cons_zero, List.set_cons_succ])
          refine wpAnyH_take (i := 6) (v := ?_) (ord.take_of rfl) (by kernel_rfl) (by kernel_rfl) (by kernel_rfl) (fun _ _ _ h => h) (Or.inl ⟨by rfl, ?_⟩) (by assumption) ?_
          rotate_left
          · intro w hSw
            (try dsimp only at hSw)
            go_simp
            (try with_reducible rfl)
          (try simp only [Act.put, List.setIfInBounds_toArray, List.set_cons_zero, List.set_cons_succ])
          refine wpAnyH_take (i := 7) (v := ?_) (ord.take_of rfl) (by kernel_rfl) (by kernel_rfl) (by kernel_rfl) (fun _ _ _ h => h) (Or.inl ⟨by rfl, ?_⟩) (by assumption) ?_
          rotate_left
          · intro w hSw
            (try dsimp only at hSw)
            go_simp
            (try with_reducible rfl)
          (try simp only [Act.put, List.setIfInBounds_toArray, List.set_cons_zero, List.set_cons_succ])
          refine wpAnyH_take (i := 8) (v := ?_) (ord.take_of rfl) (by kernel_rfl) (by kernel_rfl) (by kernel_rfl) (fun _ _ _ h => h) (Or.inl ⟨by rfl, ?_⟩) (by assumption) ?_
          rotate_left
          · intro w hSw
            (try dsimp only at hSw)
            go_simp
            (try with_reducible rfl)
          (try simp only [Act.put, List.setIfInBounds_toArray, List.set_cons_zero, List.set_cons_succ])
          refine wpAnyH_take (i := 11) (v := ?_) (ord.take_of rfl) (by kernel_rfl) (by kernel_rfl) (by kernel_rfl) (fun _ _ _ h => h) (Or.inl ⟨by rfl, ?_⟩) (by assumption) ?_
          rotate_left
          · intro w hSw
            (try dsimp only at hSw)
            go_simp
            (try with_reducible rfl)
          (try simp only [Act.put, List.setIfInBounds_toArray, List.set_cons_zero, List.set_cons_succ])
          refine wpAnyH_take (i := 12) (v := ?_) (ord.take_of rfl) (by kernel_rfl) (by kernel_rfl) (by kernel_rfl) (fun _ _ _ h => h) (Or.inl ⟨by rfl, ?_⟩) (by assumption) ?_
          rotate_left
          · intro w hSw
            (try dsimp only at hSw)
            go_simp
            (try with_reducible rfl)
          (try simp only [Act.put, List.setIfInBounds_toArray, List.set_cons_zero, List.set_cons_succ])
          refine wpAnyH_take (i := 13) (v := ?_) (ord.take_of rfl) (by kernel_rfl) (by kernel_rfl) (by kernel_rfl) (fun _ _ _ h => h) (Or.inl ⟨by rfl, ?_⟩) (by assumption) ?_
          rotate_left
          · intro w hSw
            (try dsimp only at hSw)
            go_simp
            (try with_reducible rfl)
          (try simp only [Act.put, List.setIfInBounds_toArray, List.set_cons_zero, List.set_cons_succ])
          refine wpAnyH_take (i := 14) (v := ?_) (ord.take_of rfl) (by kernel_rfl) (by kernel_rfl) (by kernel_rfl) (fun _ _ _ h => h) (Or.inl ⟨by rfl, ?_⟩) (by assumption) ?_
          rotate_left
          · intro w hSw
            (try dsimp only at hSw)
            go_simp
            (try with_reducible rfl)
          (try simp only [Act.put, List.setIfInBounds_toArray, List.set_cons_zero, List.set_cons_succ])
          refine wpAnyH_take (i := 15) (v := ?_) (ord.take_of rfl) (by kernel_rfl) (by kernel_rfl) (by kernel_rfl) (fun _ _ _ h => h) (Or.inl ⟨by rfl, ?_⟩) (by assumption) ?_
          rotate_left
          · intro w hSw
            (try dsimp only at hSw)
            go_simp
            (try with_reducible rfl)
          (try simp only [Act.put, List.setIfInBounds_toArray, List.set_cons_zero, List.set_cons_succ])
          refine wpAnyH_take (i := 18) (v := ?_) (ord.take_of rfl) (by kernel_rfl) (by kernel_rfl) (by kernel_rfl) (fun _ _ _ h => h) (Or.inl ⟨by rfl, ?_⟩) (by assumption) ?_
          rotate_left
          · intro w hSw
            (try dsimp only at hSw)
            go_simp
            (try with_reducible rfl)
          (try simp only [Act.put, List.setIfInBounds_toArray, List.set_cons_zero, List.set_cons_succ])
          refine wpAnyH_take (i := 19) (v := ?_) (ord.take_of rfl) (by kernel_rfl) (by kernel_rfl) (by kernel_rfl) (fun _ _ _ h => h) (Or.inl ⟨by rfl, ?_⟩) (by assumption) ?_
          rotate_left
          · intro w hSw
            (try dsimp only at hSw)
            go_simp
            (try with_reducible rfl)
          (try simp only [Act.put, List.setIfInBounds_toArray, List.set_cons_zero, List.set_cons_succ])
          refine wpAnyH_take (i := 20) (v := ?_) (ord.take_of rfl) (by kernel_rfl) (by kernel_rfl) (by kernel_rfl) (fun _ _ _ h => h) (Or.inl ⟨by rfl, ?_⟩) (by assumption) ?_
          rotate_left
          · intro w hSw
            (try dsimp only at hSw)
            go_simp
            (try with_reducible rfl)
          (try simp only [Act.put, List.setIfInBounds_toArray, List.set_cons_zero, List.set_cons_succ])
          refine wpAnyH_take (i := 21) (v := ?_) (ord.take_of rfl) (by kernel_rfl) (by kernel_rfl) (by kernel_rfl) (fun _ _ _ h => h) (Or.inl ⟨by rfl, ?_⟩) (by assumption) ?_
          rotate_left
          · intro w hSw
            (try dsimp only at hSw)
            go_simp
            (try with_reducible rfl)
          (try simp only [Act.put, List.setIfInBounds_toArray, List.set_cons_zero, List.set_cons_succ])
          refine wpAnyH_take (i := 22) (v := ?_) (ord.take_of rfl) (by kernel_rfl) (by kernel_rfl) (by kernel_rfl) (fun _ _ _ h => h) (Or.inl ⟨by rfl, ?_⟩) (by assumption) ?_
          rotate_left
          · intro w hSw
            (try dsimp only at hSw)
            go_simp
            (try with_reducible rfl)
          (try simp only [Act.put, List.setIfInBounds_toArray, List.set_cons_zero, List.set_cons_succ])
          refine wpAnyH_take (i := 25) (v := ?_) (ord.take_of rfl) (by kernel_rfl) (by kernel_rfl) (by kernel_rfl) (fun _ _ _ h => h) (Or.inl ⟨by rfl, ?_⟩) (by assumption) ?_
          rotate_left
          · intro w hSw
            (try dsimp only at hSw)
            go_simp
            (try with_reducible rfl)
          (try simp only [Act.put, List.setIfInBounds_toArray, List.set_cons_zero, List.set_cons_succ])
          refine wpAnyH_take (i := 26) (v := ?_) (ord.take_of rfl) (by kernel_rfl) (by kernel_rfl) (by kernel_rfl) (fun _ _ _ h => h) (Or.inl ⟨by rfl, ?_⟩) (by assumption) ?_
          rotate_left
          · intro w hSw
            (try dsimp only at hSw)
            go_simp
            (try with_reducible rfl)
          (try simp only [Act.put, List.setIfInBounds_toArray, List.set_cons_zero, List.set_cons_succ])
          refine wpAnyH_take (i := 27) (v := ?_) (ord.take_of rfl) (by kernel_rfl) (by kernel_rfl) (by kernel_rfl) (fun _ _ _ h => h) (Or.inl ⟨by rfl, ?_⟩) (by assumption) ?_
          rotate_left
          · intro w hSw
            (try dsimp only at hSw)
            go_simp
            (try with_reducible rfl)
          (try simp only [Act.put, List.setIfInBounds_toArray, List.set_cons_zero, List.set_cons_succ])
          refine wpAnyH_take (i := 28) (v := ?_) (ord.take_of rfl) (by kernel_rfl) (by kernel_rfl) (by kernel_rfl) (fun _ _ _ h => h) (Or.inl ⟨by rfl, ?_⟩) (by assumption) ?_
          rotate_left
          · intro w hSw
            (try dsimp only at hSw)
            go_simp
            (try with_reducible rfl)
          (try simp only [Act.put, List.setIfInBounds_toArray, List.set_cons_zero, List.set_cons_succ])
          refine wpAnyH_take (i := 29) (v := ?_) (ord.take_of rfl) (by kernel_rfl) (by kernel_rfl) (by kernel_rfl) (fun _ _ _ h => h) (Or.inl ⟨by rfl, ?_⟩) (by assumption) ?_
          rotate_left
          · intro w hSw
            (try dsimp only at hSw)
            go_simp
            (try with_reducible rfl)
          (try simp only [Act.put, List.setIfInBounds_toArray, List.set_cons_zero, List.set_cons_succ])
          have Y0 : Hid (Y.length ≤ 1000) := Lib.hid (by omega)
          have Y1 : Hid ((Y ++ be N x ++ be N x).length ≤ 1000) := Lib.hid (by simp only [List.length_append, be_length]; omega)
          have Y2 : Hid ((Y ++ be N x ++ be N x ++ be 1 (x % 256)).length ≤ 1000) := Lib.hid (by simp only [List.length_append, be_length]; omega)
          have Y3 : Hid ((Y ++ be N x ++ be N x ++ be 1 (x % 256) ++ be 2 (x % 65536)).length ≤ 1000) := Lib.hid (by simp only [List.length_append, be_length]; omega)
          have hdec : decide ((k : Int) < 10) = true := decide_eq_true (by omega)
          rw [hdec]
          refine ord.cast8 (m := 8) (L' := ord.LL false false false false false false false false) (by kernel_rfl) (by kernel_rfl) ?_
          refine ord.via8 (S := fun w' => w'.cell? ⟨b, off + k, none⟩ = some (.int .u64 x)) (fun y1 y2 y3 y4 y5 y6 y7 y8 : Value => (⟨#[.slice (some ⟨b, off, none⟩) m c, .int .i64 n, .string ⟨l.toArray⟩, .int .i64 T, undef, undef, undef, undef, .bool false, .pointer (some ⟨p, 0, none⟩), .string ⟨Y.toArray⟩, .int .i64 (k : Int), u12, u13, u14, u15, .bool true, .bool false, .int .i64 (k : Int), .slice (some ⟨b, off, none⟩) m c, .int .i64 (m : Int), .bool true, .bool true, .int .i64 (k : Int), .bool true, .bool true, u26, u27, .int .i64 n, .slice (some ⟨b, off, none⟩) m c, .int .i64 (k : Int), .pointer (some ⟨b, off + k, none⟩), .int .u64 x, .slice (some ⟨b, off, none⟩) m c, .int .i64 (k : Int), .pointer (some ⟨b, off + k, none⟩), .int .u64 x, y1, y2, .slice (some ⟨b, off, none⟩) m c, .int .i64 (k : Int), .pointer (some ⟨b, off + k, none⟩), .int .u64 x, .int .u8 (x % 256), y3, y4, .slice (some ⟨b, off, none⟩) m c, .int .i64 (k : Int), .pointer (some ⟨b, off + k, none⟩), .int .u64 x, .int .u16 (x % 65536), y5, y6, .slice (some ⟨b, off, none⟩) m c, .int .i64 (k : Int), .pointer (some ⟨b, off + k, none⟩), .int .u64 x, .int .u32 (x % 4294967296), y7, y8, u60, u61, u62, u63, u64, u65, u66, u67, u68, u69, u70, u71, u72, u73, u74, u75, u76, u77, u78, u79, u80, u81, u82, u83, u84, u85, u86, u87, u88, u89, u90, u91, u92, u93, u94, u95, u96, u97, u98, u99, u100, u101, u102, u103, u104, u105, u106, u107, u108, u109, u110, u111, u112, u113, u114, u115, u116, u117, u118, u119, u120], []⟩ : Act)) (I8 W0 p Y N x) ?hchk ?hdone ?h9 ?h10 ?h16 ?h17 ?h23 ?h24 ?h30 ?h31 8 false false false false false false false false rfl u37 u38 u44 u45 u51 u52 u58 u59 _ (I8.start HN.out.drew) hHeld
          case hchk =>
            intro s1 c1 s2 c2 s3 c3 s4 c4
            cases s1 <;> cases c1 <;> cases s2 <;> cases c2 <;> cases s3 <;> cases c3 <;> cases s4 <;> cases c4 <;> kernel_rfl
          case hdone =>
            intro y1 y2 y3 y4 y5 y6 y7 y8 w' hI hS
            have HW := Lib.hid (I8.done HX.out.1 hI)
            clear hI hS
            go_wp2_with fail
            go_meet
            exact ⟨rfl, HW.out⟩
          case h9 =>
            intro c1 s2 c2 s3 c3 s4 c4 y1 y2 y3 y4 y5 y6 y7 y8 w' hI hS
            have hlw : b < w'.heap.size := by
              obtain ⟨args, hnn, _⟩ := hI
              exact (Now.cell hnn (o := 0) hbW HBP.out).2
            refine ord.wpOp_go (ord.take_of rfl) rfl (fun K hK => ?_)
            have HI := Lib.hid hI
            clear hI
            (try dsimp only at hS)
            go_simp
            exact hK _ _ ⟨_, rfl, acell hlw hS, HI.out.b1⟩
          case h10 =>
            intro s2 c2 s3 c3 s4 c4 y1 y2 y3 y4 y5 y6 y7 y8 w' hI hS
            obtain ⟨B, rfl, hB, hnext⟩ := hI.k1
            refine ord.wpOp_go (ord.take_of rfl) rfl (fun K hK => ?_)
            have HNX := Lib.hid hnext
            have HCC := Lib.hid (num_at (W0 := W0) (ys := Y) HL.out HX.out Y0.out hB)
            clear hI hnext hB
            (try dsimp only at hS)
            go_simp
            go_at_call 14
            refine (HCC.out).mono ?_
            rintro en wz ⟨rfl, hZ⟩
            (try dsimp only)
            exact hK _ _ ⟨_, rfl, (hZ.2 b (off + k) hbW HBP.out).1.trans HCK.out, HNX.out _ hZ⟩
          case h16 =>
            intro s1 c1 c2 s3 c3 s4 c4 y1 y2 y3 y4 y5 y6 y7 y8 w' hI hS
            have hlw : b < w'.heap.size := by
              obtain ⟨args, hnn, _⟩ := hI
              exact (Now.cell hnn (o := 0) hbW HBP.out).2
            refine ord.wpOp_go (ord.take_of rfl) rfl (fun K hK => ?_)
            have HI := Lib.hid hI
            clear hI
            (try dsimp only at hS)
            go_simp
            exact hK _ _ ⟨_, rfl, acell hlw hS, HI.out.b2⟩
          case h17 =>
            intro s1 s3 c3 s4 c4 y1 y2 y3 y4 y5 y6 y7 y8 w' hI hS
            obtain ⟨rfl, B, rfl, hB, hnext⟩ := hI.k2
            refine ord.wpOp_go (ord.take_of rfl) rfl (fun K hK => ?_)
            have HNX := Lib.hid hnext
            have HCC := Lib.hid (u8_at (W0 := W0) (ys := Y ++ be N x ++ be N x) H8.out Y1.out hB)
            clear hI hnext hB
            (try dsimp only at hS)
            go_simp
            go_at_call 15
            refine (HCC.out).mono ?_
            rintro en wz ⟨rfl, hZ⟩
            (try dsimp only)
            exact hK _ _ ⟨_, rfl, (hZ.2 b (off + k) hbW HBP.out).1.trans HCK.out, HNX.out _ hZ⟩
          case h23 =>
            intro s1 c1 s2 c2 c3 s4 c4 y1 y2 y3 y4 y5 y6 y7 y8 w' hI hS
            have hlw : b < w'.heap.size := by
              obtain ⟨args, hnn, _⟩ := hI
              exact (Now.cell hnn (o := 0) hbW HBP.out).2
            refine ord.wpOp_go (ord.take_of rfl) rfl (fun K hK => ?_)
            have HI := Lib.hid hI
            clear hI
            (try dsimp only at hS)
            go_simp
            exact hK _ _ ⟨_, rfl, acell hlw hS, HI.out.b3⟩
          case h24 =>
            intro s1 c1 s2 s4 c4 y1 y2 y3 y4 y5 y6 y7 y8 w' hI hS
            obtain ⟨rfl, B, rfl, hB, hnext⟩ := hI.k3
            refine ord.wpOp_go (ord.take_of rfl) rfl (fun K hK => ?_)
            have HNX := Lib.hid hnext
            have HCC := Lib.hid (u16_at (W0 := W0) (ys := Y ++ be N x ++ be N x ++ be 1 (x % 256)) H16.out Y2.out hB)
            clear hI hnext hB
            (try dsimp only at hS)
            go_simp
            go_at_call 16
            refine (HCC.out).mono ?_
            rintro en wz ⟨rfl, hZ⟩
            (try dsimp only)
            exact hK _ _ ⟨_, rfl, (hZ.2 b (off + k) hbW HBP.out).1.trans HCK.out, HNX.out _ hZ⟩
          case h30 =>
            intro s1 c1 s2 c2 s3 c3 c4 y1 y2 y3 y4 y5 y6 y7 y8 w' hI hS
            have hlw : b < w'.heap.size := by
              obtain ⟨args, hnn, _⟩ := hI
              exact (Now.cell hnn (o := 0) hbW HBP.out).2
            refine ord.wpOp_go (ord.take_of rfl) rfl (fun K hK => ?_)
            have HI := Lib.hid hI
            clear hI
            (try dsimp only at hS)
            go_simp
            exact hK _ _ ⟨_, rfl, acell hlw hS, HI.out.b4⟩
          case h31 =>
            intro s1 c1 s2 c2 s3 y1 y2 y3 y4 y5 y6 y7 y8 w' hI hS
            obtain ⟨rfl, B, rfl, hB, hnext⟩ := hI.k4
            refine ord.wpOp_go (ord.take_of rfl) rfl (fun K hK => ?_)
            have HNX := Lib.hid hnext
            have HCC := Lib.hid (u32_at (W0 := W0) (ys := Y ++ be N x ++ be N x ++ be 1 (x % 256) ++ be 2 (x % 65536)) H32.out Y3.out hB)
            clear hI hnext hB
            (try dsimp only at hS)
            go_simp
            go_at_call 17
            refine (HCC.out).mono ?_
            rintro en wz ⟨rfl, hZ⟩
            (try dsimp only)
            exact hK _ _ ⟨_, rfl, (hZ.2 b (off + k) hbW HBP.out).1.trans HCK.out, HNX.out _ hZ _⟩
        case rest =>
          obtain ⟨rfl, hwc⟩ := hcut
          clear HN hck hbr
          have hcc : wc.cell? ⟨b, off + k, none⟩ = some (.int .u64 x) := (hwc.turns.cell hbW (by rintro (h | h); exact HBP.out h; cases h)).trans HCK.out
          have hbc : b < wc.heap.size := by have := hwc.turns.size; omega
          have HWC := Lib.hid hwc
          have HO : Hid (one N x = be N x ++ be N x ++ be 1 x ++ be 2 x ++ be 4 x) := Lib.hid rfl
          have R0 := Lib.hid (fun W => rnum n x N HL.out HX.out.1 HX.out.2 W)
          have R1 := Lib.hid (fun W => rnum 1 x 1 (by decide) HX.out.1 HX.out.2 W)
          have R2 := Lib.hid (fun W => rnum 2 x 2 (by decide) HX.out.1 HX.out.2 W)
          have R4 := Lib.hid (fun W => rnum 4 x 4 (by decide) HX.out.1 HX.out.2 W)
          have lN : (be N x).length ≤ 8 := by rw [be_length]; omega
          have l1 : (be 1 x).length ≤ 8 := by rw [be_length]; omega
          have l2 : (be 2 x).length ≤ 8 := by rw [be_length]; omega
          have l4 : (be 4 x).length ≤ 8 := by rw [be_length]; omega
          clear hwc e8 e16 e32 H8 H16 H32
          generalize be N x = bN at *
          generalize be 1 x = b1 at *
          generalize be 2 x = b2 at *
          generalize be 4 x = b4 at *
          have z1 : (9223372036854775807 < bN.length + bN.length) = False := by simp; omega
          have z2 : (9223372036854775807 < bN.length + bN.length + b1.length) = False := by simp; omega
          have z3 : (9223372036854775807 < bN.length + bN.length + b1.length + b2.length) = False := by simp; omega
          have z4 : (9223372036854775807 < bN.length + bN.length + b1.length + b2.length + b4.length) = False := by simp; omega
          have z5 : (9223372036854775807 < Y.length + (bN.length + bN.length + b1.length + b2.length + b4.length)) = False := by simp; omega
          go_wp2_with fail
          go_region_held3 (fun w' => w'.cell? ⟨b, off + k, none⟩ = some (.int .u64 x)) (go_keep)
           (first
              | (go_at_call 18; (first | (with_reducible refine Calls.mono (R0.out _) ?_) | (with_reducible refine Calls.mono (R1.out _) ?_) | (with_reducible refine Calls.mono (R2.out _) ?_) | (with_reducible refine Calls.mono (R4.out _) ?_)); rintro en wq ⟨rfl, hnw⟩; have hcq : wq.cell? ⟨b, off + k, none⟩ = some (.int .u64 x) := (hnw.cell (by assumption) (fun h => h)).trans (by assumption); have hbq : b < wq.heap.size := Nat.lt_of_lt_of_le (by assumption) hnw.size))
          all_goals
            go_wp2
            go_roundw
            case rel =>
              refine ⟨k + 1, by omega, by omega, by go_num, ?_, ?_⟩
              · rw [HS.out, HO.out]
                simp only [cat_mk, List.append_assoc]
              · rw [HS.out]
                repeat (first | exact HWC.out | apply Wrote.drewn | (apply Wrote.grow; rotate_left; assumption))
            case measure => simp [intOf]; omega
      · -- the end
        have hk2 : ¬ (k : Int) < (m : Int) ∨ ((k : Int) < (m : Int) ∧ ¬ (k : Int) < 10) := by omega
        have hll : l.length ≤ 40 := hcs.1
        obtain ⟨Z, hZ⟩ : ∃ Z : List UInt8, Z = Y ++ (l ++ l) := ⟨_, rfl⟩
        have hZl : Z.length = Y.length + (l.length + l.length) := by rw [hZ]; simp
        have HZ := Lib.hid hZ
        have z1 : (9223372036854775807 < l.length + l.length) = False := by simp; omega
        have z2 : (9223372036854775807 < Y.length + (l.length + l.length)) = False := by simp; omega
        have hZ310 : Z.length ≤ 310 := by omega
        have HZL := Lib.hid hZl
        have hpl := pad_lt Z.length t ht1
        have HM := Lib.hid (fun h => fun j => pad_more Z.length j t h)
        have HPE := Lib.hid (pad_end Z.length t ht1)
        have HPAD := Lib.hid (fun q w => pad_any p T t HTC.out ht64 q Z w)
        generalize padN Z.length t = P at *
        clear HS HC HOK HL hZ hZl hcs hs0 hgo
        rcases hk2 with hk2 | ⟨hk2, hk3⟩
        all_goals
          go_wp2_with fail
          refine (puts_lit HWR.out [⟨l.toArray⟩, ⟨l.toArray⟩] (by simp) (by simp; omega) _ rfl).mono ?_
          rintro e w2 ⟨rfl, hw2⟩
          simp only [List.flatMap_cons, List.flatMap_nil, List.append_nil, ← HZ.out] at hw2
          obtain ⟨q2, hw2', _, _, _, _, hst2, _⟩ := Wrote.call hw2
          clear HWR
          go_wp2_with fail
          refine (HPAD.out q2 w2 hw2' (by omega)).mono ?_
          rintro e w3 ⟨rfl, hw3⟩
          have HW3 := Lib.hid (hst2 _ _ hw3)
          clear hw3 hst2 hw2' hw2
          go_wp2_with fail
          go_loopg [10] P (fun g v wr => ∃ j : Nat, j + g = P ∧ v = .string ⟨(Z ++ List.replicate j 0).toArray⟩ ∧ Wrote W0 wr p none (Z ++ List.replicate P 0))
          case atStart => exact ⟨0, by omega, by rw [HZ.out]; simp [cat_mk], HW3.out⟩
          case round =>
            obtain ⟨j, hj, rfl, hwj⟩ := hrel
            clear HW3 HZ HPAD
            have HWJ := Lib.hid hwj
            clear hwj
            have hsl : (Z ++ List.replicate j (0 : UInt8)).length = Z.length + j := by simp
            have HF := Lib.hid (rep_add Z j)
            have hmt := mod_test (Z.length + j) t
            have hm1 : (((Z.length + j : Nat) : Int) % 1 != 0) = false := by simp
            rw [← hsl] at hmt hm1
            by_cases hg : gk = 0
            · have hjP : j = P := by omega
              subst hjP
              have hd : (((Z ++ List.replicate j (0 : UInt8)).length : Int) % (t : Int) != 0) = false := by
                rw [hmt, hsl, HPE.out]
                simp
              obtain ⟨q4, hb4, ht4, _⟩ := HWJ.out
              have HTX := Lib.hid (text _ q4 _ wr hb4)
              have HLN := Lib.hid (len _ q4 _ wr hb4)
              have hfin := hb1.trans (ht4.below hb1.size (fun x _ h => by rcases h with h | h; omega; cases h))
              have HFIN := Lib.hid hfin
              clear HF HM hmt hfin ht4 hb4
              obtain ⟨S, hS, hSs⟩ : ∃ S : ByteArray, S = ⟨(Z ++ List.replicate j (0 : UInt8)).toArray⟩ ∧ S.size = (Z ++ List.replicate j (0 : UInt8)).length := ⟨_, rfl, size_mk _⟩
              rw [← hS] at HTX ⊢
              rw [← hSs] at HLN hd hm1
              have hs400 : S.size ≤ 400 := by omega
              clear hS hSs hsl
              rcases HTC.out with ⟨h1, h2⟩ | ⟨h1, h2⟩
              · go_wp2_with (first
                  | (go_at_call 21; refine (HTX.out).mono ?_; rintro en wx ⟨rfl, rfl⟩)
                  | (go_at_call 22; refine (HLN.out).mono ?_; rintro en wx ⟨rfl, rfl⟩))
                go_ret
                exact ⟨rfl, HFIN.out⟩
              · subst h1
                go_wp2_with (first
                  | (go_at_call 21; refine (HTX.out).mono ?_; rintro en wx ⟨rfl, rfl⟩)
                  | (go_at_call 22; refine (HLN.out).mono ?_; rintro en wx ⟨rfl, rfl⟩))
                go_ret
                exact ⟨rfl, HFIN.out⟩
            · have hT1 : T = (t : Int) ∧ 1 < t := by
                rcases HTC.out with ⟨h1, h2⟩ | ⟨h1, h2⟩
                · omega
                · omega
              obtain ⟨rfl, h1t⟩ := hT1
              have hd : (((Z ++ List.replicate j (0 : UInt8)).length : Int) % (t : Int) != 0) = true := by
                rw [hmt, hsl, decide_eq_true]
                exact HM.out h1t j (by omega)
              obtain ⟨X, hX⟩ : ∃ X : List UInt8, X = Z ++ List.replicate j (0 : UInt8) := ⟨_, rfl⟩
              rw [← hX] at hd hsl HF hm1 ⊢
              have z3 : (9223372036854775807 < X.length + 1) = False := by simp; omega
              clear HM hmt hm1 hX hsl
              go_wp2_with fail
              go_roundg (gk - 1)
              case measure => omega
              case rel =>
                refine ⟨j + 1, by omega, ?_, ?_⟩
                · rw [← HF.out]
                  exact congrArg Value.string (cat_mk X [0])
                · exact HWJ.out
end Go.Proofs.Ytkpmdaknojlkjaa.oref
