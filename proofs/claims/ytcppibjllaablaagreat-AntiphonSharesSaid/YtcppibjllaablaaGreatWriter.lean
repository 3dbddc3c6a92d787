/-
  octet.Writer over this translation: what each call leaves.
-/
import Derived.Test.YtcppibjllaablaaGreatAppend
import Derived.Test.YtcppibjllaablaaGreatReader
import Derived.Deep.RegionLaw
import Derived.BigQuiet
import Derived.Deep.LoopGhost
namespace Go.Proofs.YtcppibjllaablaaGreat.wr
open Go.RowKit mem
set_option linter.unusedVariables false

/-- a writer at block p that holds the bytes xs -/
abbrev Wr := Bytes 130 5
abbrev Wrote := mem.Wrote 130 5

theorem info8 : (Tryz.prog.info? 5).map (fun i => (i.zero, i.size, i.bytes)) = some (some (.int .u8 0), 1, 1) := by kernel_rfl

/-- the value of a writer's only cell -/
theorem own_form {w : World} {v : Value} {n : Nat} {xs : List Value} (h : w.ownsRow 0 5 1 v n xs) : ∃ a c, v = .slice a n c := by
  rcases h.2 with ⟨rfl, rfl⟩ | ⟨g, cap, cur, rfl, _⟩
  · exact ⟨_, _, rfl⟩
  · exact ⟨_, _, rfl⟩


theorem text_push (xs : List UInt8) (s : ByteArray) : (xs.map fun u => (u.toNat : Int)).foldl (fun r n => r.push (UInt8.ofNat n.toNat)) s = ⟨s.data ++ xs.toArray⟩ := by
  induction xs generalizing s with
  | nil => simp
  | cons x xs ih =>
    simp only [List.map_cons, List.foldl_cons, ih, Int.toNat_natCast, UInt8.ofNat_toNat]
    congr 1
    simp [ByteArray.push]

theorem text (p : Nat) (q : Option Nat) (xs : List UInt8) (w : World) (h : Wr w p q xs) :
    Calls Tryz.prog 57 #[.pointer (some ⟨p, 0, none⟩)] w fun en w' => en = .returned (.string ⟨xs.toArray⟩) ∧ w = w' := by
  obtain ⟨v, hq, hb, ho, hne⟩ := h
  have h0 : w.cell? ⟨p, 0, none⟩ = some v := hb.cell 0
  rcases ho.2 with ⟨rfl, hn⟩ | ⟨g, cap, cur, rfl, hb0, hg, hnc, hcm, hcs, htake⟩
  · obtain rfl : xs = [] := List.eq_nil_of_length_eq_zero hn
    have hc3 : (convert 128 9 (.slice none 0 0)).run Tryz.prog w = .ok (.string ⟨#[]⟩) w := by
      rw [run_convert_bytes_string (P := Tryz.prog) w 128 9 5 none 0 0 Tryz.underlying128 Tryz.underlying5 Tryz.underlying9]
      rfl
    clear hq ho hne
    go_enter Tryz.func57, Tryz.ntmps57
    go_wp2
    go_ret
    exact ⟨rfl, rfl⟩
  · have hl : (loadCells ⟨g, 0, none⟩ xs.length).run Tryz.prog w = .ok ((xs.map fun u => (u.toNat : Int)).map (Value.int .u8)).toArray w := by
      have hh := run_loadCells_list (P := Tryz.prog) (w := w) ⟨g, 0, none⟩ (xs.map b8) (ho.cells (g := g) rfl)
      rw [List.length_map] at hh
      rw [hh, List.map_map]; rfl
    have hc := run_bytesToString w ⟨g, 0, none⟩ xs.length cap _ hl
    have hc2 := run_convert_bytes_string (P := Tryz.prog) w 128 9 5 (some ⟨g, 0, none⟩) xs.length cap Tryz.underlying128 Tryz.underlying5 Tryz.underlying9
    rw [hc, text_push] at hc2
    have hc3 : (convert 128 9 (.slice (some ⟨g, 0, none⟩) xs.length cap)).run Tryz.prog w = .ok (.string ⟨xs.toArray⟩) w := by rw [hc2]; simp
    clear hc hc2 hl hq ho hne hg htake hcs
    go_enter Tryz.func57, Tryz.ntmps57
    go_wp2
    go_ret
    exact ⟨rfl, rfl⟩

/-- cells of bytes, out of a block known whole -/
theorem news {w : World} {B : Nat} {cs : List Value} {t : TypeId} (hb : Blk w B cs.toArray t) : ∀ j u, cs[j]? = some u → w.cell? ((⟨B, 0, none⟩ : Addr).add j) = some u := fun j u hu =>
  World.news_of_block (cs := cs.toArray) hb j u (by simpa using hu)
theorem one8 (bs : List UInt8) : ∀ u ∈ bs.map b8, u.oneCell' = true := fun u hu => by
  obtain ⟨x, _, rfl⟩ := List.mem_map.1 hu; rfl

theorem u8 (p : Nat) (q : Option Nat) (xs bs : List UInt8) (B c : Nat) (w : World) (h : Wr w p q xs) (hB : Blk w B (bs.map b8).toArray 5) (hpos : 0 < bs.length) (hmax : xs.length + bs.length ≤ 140737488355328) :
    Calls Tryz.prog 50 #[.pointer (some ⟨p, 0, none⟩), .slice (some ⟨B, 0, none⟩) bs.length c] w fun en w' => en = .returned (.pointer (some ⟨p, 0, none⟩)) ∧ Wrote w w' p q (xs ++ bs) := by
  obtain ⟨i0, hi, hz0, hz1, hz2⟩ := info_parts info8
  obtain ⟨v, hq, hb, ho, hne⟩ := h
  have h0 : w.cell? ⟨p, 0, none⟩ = some v := hb.cell 0
  have f0 : w.frozen? ⟨p, 0, none⟩ = false := hb.free 0
  have HQ := Lib.hid hq
  have HB := Lib.hid hb
  have HC := Lib.hid (news hB)
  clear hq hB
  go_enter Tryz.func50, Tryz.ntmps50
  go_wp2_with (at_builtin; refine wpList_append_lies _ rfl _ _ 128 rfl 0 5 i0 (.int .u8 0) 1 1 Tryz.underlying128 hi hz0 hz1 hz2 rfl (by decide) _ _ _ rfl ho ⟨B, 0, none⟩ bs.length c (bs.map b8) rfl (by simp) HC.out (one8 bs) hpos (by unfold maxLen; omega) (by omega) (Nat.zero_le _) _ rfl ?_)
  intro g cap w1 hown hgrow hat hlt
  have h1 : w1.cell? ⟨p, 0, none⟩ = some v := (hgrow.cell_far _ HB.out.lt (fun h => hne (HQ.out.symm.trans h.symm))).trans h0
  have f1 : w1.frozen? ⟨p, 0, none⟩ = false := (hgrow.frozen_far _ HB.out.lt (fun h => hne (HQ.out.symm.trans h.symm))).trans f0
  have R := wrote_append (T := 130) (E := 5) (zs := bs) HQ.out HB.out ho hne (Turns.refl _ _) (by rw [List.length_append, List.map_append]; exact hown) hgrow (by rcases hat with h | h; exact .inl h.symm; exact .inr ⟨g, rfl, by omega⟩)
  have HR := Lib.hid R
  clear R hown hgrow hat ho h0 f0
  go_wp2
  go_ret
  exact ⟨rfl, HR.out⟩

/-- the lowest byte of a number -/
def byteOf (y : Int) : UInt8 := UInt8.ofNat (y % 256).toNat
/-- the n lowest bytes of a number, the highest first -/
def be : Nat → Int → List UInt8
  | 0, _ => []
  | n + 1, x => byteOf (x / 256 ^ n) :: be n x
theorem be_length (n : Nat) (x : Int) : (be n x).length = n := by induction n with | zero => rfl | succ n ih => simp [be, ih]
theorem byteOf_toNat (y : Int) : ((byteOf y).toNat : Int) = y % 256 := by
  unfold byteOf
  rw [UInt8.toNat_ofNat']
  omega
theorem byte_cell (y : Int) : Value.int .u8 (IntKind.u8.wrap y) = b8 (byteOf y) := by
  unfold b8
  rw [byteOf_toNat, IntKind.wrap_u8]

theorem bes_length (N : Nat) (z : Nat → Int) (k : Nat) : ((List.range k).flatMap fun i => be N (z i)).length = k * N := by
  induction k with
  | zero => simp
  | succ k ih =>
    rw [List.range_succ, List.flatMap_append, List.length_append, ih, List.flatMap_cons, List.flatMap_nil, List.append_nil, be_length, Nat.succ_mul]

theorem shift256 (x : Int) (r : Nat) (hr : r ≤ 7) : x / 2 ^ min (8 * (r : Int)).toNat IntKind.u64.bits = x / 256 ^ r := by
  have e : min (8 * (r : Int)).toNat IntKind.u64.bits = 8 * r := by
    have : IntKind.u64.bits = 64 := rfl
    omega
  rw [e, Int.pow_mul]
  rfl

set_option maxHeartbeats 1000000 in
theorem num (p : Nat) (q : Option Nat) (xs : List UInt8) (n : Int) (N : Nat) (hN : rd.lim n = (N : Int)) (B c m : Nat) (z : Nat → Int) (w : World) (h : Wr w p q xs)
    (hc : ∀ i, i < m → w.cell? ⟨B, i, none⟩ = some (.int .u64 (z i))) (hz : ∀ i, i < m → 0 ≤ z i ∧ z i ≤ 18446744073709551615) (hB : B < w.heap.size) (hBp : B ≠ p) (hBq : q ≠ some B) (hmax : xs.length + 8 * m ≤ 140737488355328) :
    Calls Tryz.prog 85 #[.pointer (some ⟨p, 0, none⟩), .int .i64 n, .slice (some ⟨B, 0, none⟩) m c] w fun en w' => en = .returned (.pointer (some ⟨p, 0, none⟩)) ∧ Wrote w w' p q (xs ++ (List.range m).flatMap fun i => be N (z i)) := by
  obtain ⟨i0, hi, hz0, hz1, hz2⟩ := info_parts info8
  have hl1 : 1 ≤ rd.lim n := by unfold rd.lim; omega
  have hl8 : rd.lim n ≤ 8 := by unfold rd.lim; omega
  rw [hN] at hl1 hl8
  have HL : Hid (∀ w, Calls Tryz.prog 118 #[.int .i64 n] w fun en w' => en = .returned (.int .i64 N) ∧ w = w') := by
    have := rd.limit n
    rw [hN] at this
    exact Lib.hid this
  have HC := Lib.hid hc
  have HZ := Lib.hid hz
  clear hN hc hz
  go_enter Tryz.func85, Tryz.ntmps85
  go_wp2_with (go_at_call 118; refine (HL.out _).mono ?_; rintro e w' ⟨rfl, rfl⟩)
  go_loopw [14] (fun j wr => ∃ k : Nat, k ≤ m ∧ j = .int .i64 k ∧ Wrote w wr p q (xs ++ (List.range k).flatMap fun i => be N (z i))) (fun j _ => m - (intOf j).toNat)
  case atStart => exact ⟨0, Nat.zero_le _, rfl, by simpa using Wrote.refl h⟩
  case round =>
    obtain ⟨k, hk, rfl, hwr⟩ := hrel
    by_cases hlt : k < m
    · have HW := Lib.hid hwr
      obtain ⟨q1, hb1, ht1, hq1⟩ := hwr
      have hck : wr.cell? ⟨B, k, none⟩ = some (.int .u64 (z k)) := (ht1.cell hB (by simp [hBp]; exact fun h => hBq h.symm)).trans (HC.out k hlt)
      clear hb1 ht1 hq1
      obtain ⟨wo, rfl⟩ : ∃ wo : World, wo = wr := ⟨_, rfl⟩
      go_wp2
      go_loopw [9] (fun j wr => ∃ r : Nat, r ≤ N ∧ j = .int .i64 ((r : Int) - 1) ∧ ∃ pre, pre ++ be r (z k) = be N (z k) ∧ Wrote w wr p q (xs ++ ((List.range k).flatMap fun i => be N (z i)) ++ pre)) (fun j _ => (intOf j + 1).toNat)
      case atStart => exact ⟨N, Nat.le_refl _, rfl, [], rfl, by simpa using HW.out⟩
      case round =>
        obtain ⟨r, hr, rfl, pre, hpre, hwr⟩ := hrel
        cases r with
        | zero =>
          have hw2 : Wrote w wr p q (xs ++ (List.range (k + 1)).flatMap fun i => be N (z i)) := by
            rw [List.range_succ, List.flatMap_append, List.flatMap_cons, List.flatMap_nil, List.append_nil, ← List.append_assoc, ← hpre, be, List.append_nil]
            exact hwr
          clear hpre hwr
          go_wp2
          go_roundw
          case rel => exact ⟨k + 1, by omega, by go_num, hw2⟩
          case measure => simp [intOf]; omega
        | succ r =>
          rw [show (((r + 1 : Nat) : Int) - 1) = (r : Int) from by omega]
          have hpl := congrArg List.length hpre
          rw [List.length_append, be_length, be_length] at hpl
          obtain ⟨Y, hY, hYl⟩ : ∃ Y : List UInt8, Y = xs ++ ((List.range k).flatMap fun i => be N (z i)) ++ pre ∧ Y.length + 1 ≤ 140737488355328 := by
            refine ⟨_, rfl, ?_⟩
            rw [List.length_append, List.length_append, bes_length]
            have := Nat.mul_le_mul hlt (show N ≤ 8 by omega)
            have : k * N ≤ k * 8 := Nat.mul_le_mul_left _ (by omega)
            omega
          rw [← hY] at hwr
          have HP := Lib.hid hpre
          have HY := Lib.hid hY
          obtain ⟨q2, hb2, ht2, hq2⟩ := hwr
          obtain ⟨v, hv, hbv, hov, hne⟩ := hb2
          have h0 : wr.cell? ⟨p, 0, none⟩ = some v := hbv.cell 0
          have f0 : wr.frozen? ⟨p, 0, none⟩ = false := hbv.free 0
          have hpw := hbv.lt
          have hsh : Op.shift .shr .u64 (z k) .i64 (IntKind.i64.wrap (8 * (r : Int))) = pure (.int .u64 (z k / 256 ^ r)) := by
            rw [IntWalk.i64_in _ (by omega), shift_shr_any _ _ _ _ (by omega), shift256 (z k) r (by omega)]
          have HV := Lib.hid hv
          have HBV := Lib.hid hbv
          have HT := Lib.hid ht2
          have HQ := Lib.hid hq2
          clear hv hbv hpre ht2 hq2 hck HW hY hpl
          go_wp2_with fail
          go_region_law
           ((refine step_append_lies _ (by rfl) _ _ _ (by rfl) 0 5 i0 (.int .u8 0) 1 1 Tryz.underlying128 hi hz0 hz1 hz2 rfl (by decide) v _ _ (by rfl) ((hov.alloc _).drew)
                ⟨wr.heap.size, 0, none⟩ 1 1 [.int .u8 (IntKind.u8.wrap (z k / 256 ^ r))] (by rfl) (by rfl) (World.news_of_block (cs := #[.int .u8 (IntKind.u8.wrap (z k / 256 ^ r))]) (t := 5) (fr := (0, 0)) (heap_alloc_new wr _)) (by simp [Value.oneCell'])
                (by omega) (by unfold maxLen; omega) (by omega) (Nat.zero_le _) (wr.heap.size + 1) (by simp) ?_; intro g cap w1 hown hgrow hat hlt2; have hc1 : w1.cell? ⟨p, 0, none⟩ = some v := (hgrow.cell_far ⟨p, 0, none⟩ (by simp; omega) (fun h => hne (HV.out.symm.trans h.symm))).trans ((World.cell?_alloc_past _ _ _ hpw).trans h0); have hf1 : w1.frozen? ⟨p, 0, none⟩ = false := (hgrow.frozen_far ⟨p, 0, none⟩ (by simp; omega) (fun h => hne (HV.out.symm.trans h.symm))).trans ((World.frozen?_alloc_past _ _ _ hpw).trans f0)))
          all_goals
            have R := wrote_append (T := 130) (E := 5) (zs := [byteOf (z k / 256 ^ r)]) HV.out HBV.out hov hne (((Turns.refl _ wr).alloc _).drew) (by rw [byte_cell] at hown; rw [List.length_append, List.map_append]; exact hown) hgrow (by rcases hat with h | h; exact .inl h.symm; exact .inr ⟨g, rfl, by omega⟩)
            have R2 := Lib.hid (Wrote.step HT.out HQ.out R)
            clear R hown hgrow hat hov h0 f0 hc1 hf1 HBV HV HT HQ
            go_wp2
            go_roundw
            case rel => exact ⟨r, by omega, by go_num, pre ++ [byteOf (z k / 256 ^ r)], by rw [← HP.out, List.append_assoc]; rfl, by rw [← List.append_assoc, ← HY.out]; exact R2.out⟩
            case measure => simp [intOf]
    · obtain rfl : k = m := by omega
      go_wp2
      go_ret
      exact ⟨rfl, hwr⟩

/-- what is written so far serves a call on the same writer, behind whatever new block -/
theorem Wrote.call {w wr : World} {p : Nat} {q : Option Nat} {ys : List UInt8} (h : Wrote w wr p q ys) :
    ∃ q1, Wr wr p q1 ys ∧ q1 ≠ some p ∧ p < wr.heap.size ∧ (∀ g, q1 = some g → g < wr.heap.size) ∧ (∀ o, Wr (wr.alloc o) p q1 ys) ∧ (∀ w2 zs, Wrote wr w2 p q1 zs → Wrote w w2 p q zs) ∧ (∀ o w2 zs, Wrote (wr.alloc o) w2 p q1 zs → Wrote w w2 p q zs) := by
  obtain ⟨q1, hb, ht, hq⟩ := h
  refine ⟨q1, hb, ?_, hb.lt, hb.qlt, fun o => hb.turns ((Turns.refl (fun _ => False) wr).alloc o) (fun h => h) (fun _ _ h => h), fun w2 zs k => Wrote.step ht hq k, fun o w2 zs k => Wrote.step (ht.alloc o) hq k⟩
  obtain ⟨v, _, _, _, hne⟩ := hb
  exact hne

theorem Wrote.turns {w wr : World} {p : Nat} {q : Option Nat} {ys : List UInt8} (h : Wrote w wr p q ys) : Turns (fun k => k = p ∨ some k = q) w wr := by
  obtain ⟨_, _, ht, _⟩ := h; exact ht

theorem flat_add (N : Nat) (z : Nat → Int) (xs : List UInt8) (k : Nat) : (xs ++ (List.range k).flatMap fun i => be N (z i)) ++ be N (z k) = xs ++ (List.range (k + 1)).flatMap fun i => be N (z i) := by
  rw [List.range_succ, List.flatMap_append, List.flatMap_cons, List.flatMap_nil, List.append_nil, List.append_assoc]

set_option maxHeartbeats 400000 in
theorem u16 (p : Nat) (q : Option Nat) (xs : List UInt8) (B c m : Nat) (z : Nat → Int) (w : World) (h : Wr w p q xs)
    (hc : ∀ i, i < m → w.cell? ⟨B, i, none⟩ = some (.int .u16 (z i))) (hz : ∀ i, i < m → 0 ≤ z i ∧ z i ≤ 65535) (hB : B < w.heap.size) (hBp : B ≠ p) (hBq : q ≠ some B) (hmax : xs.length + 8 * m ≤ 140737488355328) :
    Calls Tryz.prog 53 #[.pointer (some ⟨p, 0, none⟩), .slice (some ⟨B, 0, none⟩) m c] w fun en w' => en = .returned (.pointer (some ⟨p, 0, none⟩)) ∧ Wrote w w' p q (xs ++ (List.range m).flatMap fun i => be 2 (z i)) := by
  have HC := Lib.hid hc
  have HZ := Lib.hid hz
  clear hc hz
  go_enter Tryz.func53, Tryz.ntmps53
  go_wp2
  go_loopw [9] (fun j wr => ∃ k : Nat, k ≤ m ∧ j = .int .i64 k ∧ Wrote w wr p q (xs ++ (List.range k).flatMap fun i => be 2 (z i))) (fun j _ => m - (intOf j).toNat)
  case atStart => exact ⟨0, Nat.zero_le _, rfl, by simpa using Wrote.refl h⟩
  case round =>
    obtain ⟨k, hk, rfl, hwr⟩ := hrel
    by_cases hlt : k < m
    · have hck : wr.cell? ⟨B, k, none⟩ = some (.int .u16 (z k)) := ((Wrote.turns hwr).cell hB (by simp [hBp]; exact fun h => hBq h.symm)).trans (HC.out k hlt)
      have hzk := HZ.out k hlt
      obtain ⟨hz0, hz1⟩ := hzk
      obtain ⟨q1, hw1, hqp, hpl, hql, hwa, _, hst⟩ := Wrote.call hwr
      have hN := num p q1 (xs ++ (List.range k).flatMap fun i => be 2 (z i)) 2 2 (by decide) wr.heap.size 1 1 (fun _ => z k) (wr.alloc (.cells #[.int .u64 (z k)] 183)) (hwa _)
        (fun i hi => by obtain rfl : i = 0 := by omega
                        exact (Blk.new wr #[.int .u64 (z k)] 183).cell 0) (fun _ _ => ⟨hz0, by omega⟩) (by simp) (by omega) (fun h => by have := hql _ h; omega)
        (by rw [List.length_append, bes_length]; omega)
      have HN := Lib.hid hN
      have HS := Lib.hid hst
      have HF := Lib.hid (flat_add 2 z xs k)
      clear hN hst hwa hw1 hwr HC HZ
      go_wp2_with (go_at_call 85; refine (HN.out).mono ?_; rintro e w' ⟨rfl, hw2⟩)
      have hw3 := HS.out _ _ _ hw2
      rw [show ((List.range 1).flatMap fun _ => be 2 (z k)) = be 2 (z k) from by simp] at hw3
      rw [HF.out] at hw3
      go_roundw
      case rel => exact ⟨k + 1, by omega, by go_num, hw3⟩
      case measure => simp [intOf]; omega
    · obtain rfl : k = m := by omega
      go_wp2
      go_ret
      exact ⟨rfl, hwr⟩

set_option maxHeartbeats 400000 in
theorem u32 (p : Nat) (q : Option Nat) (xs : List UInt8) (B c m : Nat) (z : Nat → Int) (w : World) (h : Wr w p q xs)
    (hc : ∀ i, i < m → w.cell? ⟨B, i, none⟩ = some (.int .u32 (z i))) (hz : ∀ i, i < m → 0 ≤ z i ∧ z i ≤ 4294967295) (hB : B < w.heap.size) (hBp : B ≠ p) (hBq : q ≠ some B) (hmax : xs.length + 8 * m ≤ 140737488355328) :
    Calls Tryz.prog 54 #[.pointer (some ⟨p, 0, none⟩), .slice (some ⟨B, 0, none⟩) m c] w fun en w' => en = .returned (.pointer (some ⟨p, 0, none⟩)) ∧ Wrote w w' p q (xs ++ (List.range m).flatMap fun i => be 4 (z i)) := by
  have HC := Lib.hid hc
  have HZ := Lib.hid hz
  clear hc hz
  go_enter Tryz.func54, Tryz.ntmps54
  go_wp2
  go_loopw [9] (fun j wr => ∃ k : Nat, k ≤ m ∧ j = .int .i64 k ∧ Wrote w wr p q (xs ++ (List.range k).flatMap fun i => be 4 (z i))) (fun j _ => m - (intOf j).toNat)
  case atStart => exact ⟨0, Nat.zero_le _, rfl, by simpa using Wrote.refl h⟩
  case round =>
    obtain ⟨k, hk, rfl, hwr⟩ := hrel
    by_cases hlt : k < m
    · have hck : wr.cell? ⟨B, k, none⟩ = some (.int .u32 (z k)) := ((Wrote.turns hwr).cell hB (by simp [hBp]; exact fun h => hBq h.symm)).trans (HC.out k hlt)
      have hzk := HZ.out k hlt
      obtain ⟨hz0, hz1⟩ := hzk
      obtain ⟨q1, hw1, hqp, hpl, hql, hwa, _, hst⟩ := Wrote.call hwr
      have hN := num p q1 (xs ++ (List.range k).flatMap fun i => be 4 (z i)) 4 4 (by decide) wr.heap.size 1 1 (fun _ => z k) (wr.alloc (.cells #[.int .u64 (z k)] 183)) (hwa _)
        (fun i hi => by obtain rfl : i = 0 := by omega
                        exact (Blk.new wr #[.int .u64 (z k)] 183).cell 0) (fun _ _ => ⟨hz0, by omega⟩) (by simp) (by omega) (fun h => by have := hql _ h; omega)
        (by rw [List.length_append, bes_length]; omega)
      have HN := Lib.hid hN
      have HS := Lib.hid hst
      have HF := Lib.hid (flat_add 4 z xs k)
      clear hN hst hwa hw1 hwr HC HZ
      go_wp2_with (go_at_call 85; refine (HN.out).mono ?_; rintro e w' ⟨rfl, hw2⟩)
      have hw3 := HS.out _ _ _ hw2
      rw [show ((List.range 1).flatMap fun _ => be 4 (z k)) = be 4 (z k) from by simp] at hw3
      rw [HF.out] at hw3
      go_roundw
      case rel => exact ⟨k + 1, by omega, by go_num, hw3⟩
      case measure => simp [intOf]; omega
    · obtain rfl : k = m := by omega
      go_wp2
      go_ret
      exact ⟨rfl, hwr⟩

/-! ### bytes, and padding -/
theorem size_list (s : ByteArray) : s.data.toList.length = s.size := by rw [Array.length_toList]; rfl
theorem put_add (ss : Nat → ByteArray) (xs : List UInt8) (k : Nat) : (xs ++ (List.range k).flatMap fun i => (ss i).data.toList) ++ (ss k).data.toList = xs ++ (List.range (k + 1)).flatMap fun i => (ss i).data.toList := by
  rw [List.range_succ, List.flatMap_append, List.flatMap_cons, List.flatMap_nil, List.append_nil, List.append_assoc]

theorem put_mono (ss : Nat → ByteArray) (xs : List UInt8) (k m : Nat) (h : k ≤ m) : (xs ++ (List.range k).flatMap fun i => (ss i).data.toList).length ≤ (xs ++ (List.range m).flatMap fun i => (ss i).data.toList).length := by
  induction h with
  | refl => exact Nat.le_refl _
  | step h ih => rename_i n; have := congrArg List.length (put_add ss xs n); rw [List.length_append] at this; show _ ≤ (xs ++ (List.range (n + 1)).flatMap fun i => (ss i).data.toList).length; omega

set_option maxHeartbeats 400000 in
theorem put (p : Nat) (q : Option Nat) (xs : List UInt8) (B c m : Nat) (ss : Nat → ByteArray) (w : World) (h : Wr w p q xs)
    (hc : ∀ i, i < m → w.cell? ⟨B, i, none⟩ = some (.string (ss i))) (hB : B < w.heap.size) (hBp : B ≠ p) (hBq : q ≠ some B) (hm : m ≤ 4611686018427387904)
    (hmax : (xs ++ (List.range m).flatMap fun i => (ss i).data.toList).length ≤ 140737488355328) :
    Calls Tryz.prog 55 #[.pointer (some ⟨p, 0, none⟩), .slice (some ⟨B, 0, none⟩) m c] w fun en w' => en = .returned (.pointer (some ⟨p, 0, none⟩)) ∧ Wrote w w' p q (xs ++ (List.range m).flatMap fun i => (ss i).data.toList) := by
  obtain ⟨i0, hi, hz0, hz1, hz2⟩ := info_parts info8
  have HC := Lib.hid hc
  clear hc
  go_enter Tryz.func55, Tryz.ntmps55
  go_wp2
  go_loopw [9] (fun j wr => ∃ k : Nat, k ≤ m ∧ j = .int .i64 k ∧ Wrote w wr p q (xs ++ (List.range k).flatMap fun i => (ss i).data.toList)) (fun j _ => m - (intOf j).toNat)
  case atStart => exact ⟨0, Nat.zero_le _, rfl, by simpa using Wrote.refl h⟩
  case round =>
    obtain ⟨k, hk, rfl, hwr⟩ := hrel
    by_cases hlt : k < m
    · have hck : wr.cell? ⟨B, k, none⟩ = some (.string (ss k)) := ((Wrote.turns hwr).cell hB (by simp [hBp]; exact fun h => hBq h.symm)).trans (HC.out k hlt)
      have HF := Lib.hid (put_add ss xs k)
      have hlen := put_mono ss xs (k + 1) m hlt
      rw [← HF.out, List.length_append] at hlen
      obtain ⟨Y, hY⟩ : ∃ Y : List UInt8, Y = xs ++ ((List.range k).flatMap fun i => (ss i).data.toList) := ⟨_, rfl⟩
      rw [← hY] at hwr hlen
      rw [← hY] at HF
      have hsz : Y.length + (ss k).size ≤ 140737488355328 := by
        have := size_list (ss k)
        omega
      obtain ⟨q2, hb2, ht2, hq2⟩ := hwr
      obtain ⟨v, hv, hbv, hov, hne⟩ := hb2
      have h0 : wr.cell? ⟨p, 0, none⟩ = some v := hbv.cell 0
      have f0 : wr.frozen? ⟨p, 0, none⟩ = false := hbv.free 0
      have hpw := hbv.lt
      have HV := Lib.hid hv
      have HBV := Lib.hid hbv
      have HT := Lib.hid ht2
      have HQ := Lib.hid hq2
      clear hv hbv ht2 hq2 hY hlen HC hmax
      go_wp2_with (at_builtin; refine wpList_append_string_at _ rfl _ _ 128 9 rfl 0 5 i0 Tryz.underlying128 Tryz.underlying9 hi hz0 hz1 hz2 _ _ _ rfl hov (ss k) rfl (by unfold maxLen; omega) (by omega) (Nat.zero_le _) ?_)
      intro v' w1 hown hgrow hat
      obtain ⟨a', c', rfl⟩ := own_form hown
      have hc1 : w1.cell? ⟨p, 0, none⟩ = some v := (hgrow.cell_far ⟨p, 0, none⟩ hpw (fun h => hne (HV.out.symm.trans h.symm))).trans h0
      have hf1 : w1.frozen? ⟨p, 0, none⟩ = false := (hgrow.frozen_far ⟨p, 0, none⟩ hpw (fun h => hne (HV.out.symm.trans h.symm))).trans f0
      have R := wrote_append (T := 130) (E := 5) (zs := (ss k).data.toList) HV.out HBV.out hov hne (Turns.refl _ wr)
        (by rw [List.length_append, List.map_append]; rw [strCells_b8] at hown; rw [size_list]; exact hown) hgrow (by rcases hat with h | h; exact .inl h; exact .inr ⟨_, h, Nat.le_refl _⟩)
      have R2 := Wrote.step HT.out HQ.out R
      rw [HF.out] at R2
      have R3 := Lib.hid R2
      clear R R2 hown hgrow hat hov h0 f0 HBV HV HT HQ HF
      go_wp2
      go_roundw
      case rel => exact ⟨k + 1, by omega, by go_num, R3.out⟩
      case measure => simp [intOf]; omega
    · obtain rfl : k = m := by omega
      go_wp2
      go_ret
      exact ⟨rfl, hwr⟩

/-- how many zeros make n a multiple of t -/
def padN (n : Nat) (t : Nat) : Nat := (t - n % t) % t
theorem pad_more (n k t : Nat) (ht : 1 < t) (h : k < padN n t) : (n + k) % t ≠ 0 := by
  unfold padN at h
  have hr : n % t < t := Nat.mod_lt _ (by omega)
  by_cases h0 : n % t = 0
  · rw [h0, Nat.sub_zero, Nat.mod_self] at h; omega
  · rw [Nat.mod_eq_of_lt (show t - n % t < t by omega)] at h
    rw [Nat.add_mod, Nat.mod_eq_of_lt (show k < t by omega), Nat.mod_eq_of_lt (by omega)]
    omega
theorem pad_end (n t : Nat) (ht : 0 < t) : (n + padN n t) % t = 0 := by
  unfold padN
  have hr : n % t < t := Nat.mod_lt _ ht
  by_cases h0 : n % t = 0
  · rw [h0, Nat.sub_zero, Nat.mod_self, Nat.add_zero]; exact h0
  · rw [Nat.mod_eq_of_lt (show t - n % t < t by omega), Nat.add_mod, Nat.mod_eq_of_lt (show t - n % t < t by omega), show n % t + (t - n % t) = t by omega, Nat.mod_self]
theorem pad_lt (n t : Nat) (ht : 0 < t) : padN n t < t := Nat.mod_lt _ ht
theorem rep_add (xs : List UInt8) (k : Nat) : (xs ++ List.replicate k 0) ++ [0] = xs ++ List.replicate (k + 1) 0 := by
  rw [List.replicate_succ', List.append_assoc]
theorem mod_test (L t : Nat) : ((L : Int) % (t : Int) != 0) = decide (L % t ≠ 0) := by
  have : ((L : Int) % (t : Int)) = ((L % t : Nat) : Int) := by rw [Int.natCast_emod]
  rw [this]
  by_cases h : L % t = 0
  · simp [h]
  · have h' : ((L % t : Nat) : Int) ≠ 0 := by omega
    rw [decide_eq_true h]
    exact bne_iff_ne.2 h'

theorem pad_one (p : Nat) (q : Option Nat) (xs : List UInt8) (to : Int) (w : World) (h : Wr w p q xs) (hto : to ≤ 1) :
    Calls Tryz.prog 99 #[.pointer (some ⟨p, 0, none⟩), .int .i64 to] w fun en w' => en = .returned (.pointer (some ⟨p, 0, none⟩)) ∧ Wrote w w' p q xs := by
  have HW := Lib.hid (Wrote.refl h)
  obtain ⟨v, hq, hb, ho, hne⟩ := h
  obtain ⟨a, c, rfl⟩ := own_form ho
  have h0 : w.cell? ⟨p, 0, none⟩ = some (.slice a xs.length c) := hb.cell 0
  clear hq hb ho hne
  by_cases h1 : to = 1
  · subst h1
    go_enter Tryz.func99, Tryz.ntmps99
    go_wp2
    refine wp_loop_rounds 1 ?_
    rw [rounds_succ]
    go_wp2
    go_ret
    exact ⟨rfl, HW.out⟩
  · have h2 : to < 1 := by omega
    go_enter Tryz.func99, Tryz.ntmps99
    go_wp2
    refine wp_loop_rounds 1 ?_
    rw [rounds_succ]
    go_wp2
    go_ret
    exact ⟨rfl, HW.out⟩

set_option maxHeartbeats 400000 in
theorem pad_many (p : Nat) (q : Option Nat) (xs : List UInt8) (t : Nat) (w : World) (h : Wr w p q xs) (ht : 1 < t) (hto : t ≤ 1048576) (hmax : xs.length ≤ 70368744177664) :
    Calls Tryz.prog 99 #[.pointer (some ⟨p, 0, none⟩), .int .i64 t] w fun en w' => en = .returned (.pointer (some ⟨p, 0, none⟩)) ∧ Wrote w w' p q (xs ++ List.replicate (padN xs.length t) 0) := by
  obtain ⟨i0, hi, hz0, hz1, hz2⟩ := info_parts info8
  have ht' : (1 : Int) < (t : Int) := by omega
  have hpn := pad_lt xs.length t (by omega)
  have HM := Lib.hid (fun k => pad_more xs.length k t ht)
  have HE := Lib.hid (pad_end xs.length t (by omega))
  have HP : Hid (padN xs.length t = padN xs.length t) := Lib.hid rfl
  generalize padN xs.length t = P at *
  go_enter Tryz.func99, Tryz.ntmps99
  go_wp2
  go_loopg [14] P (fun g _ wr => ∃ k : Nat, k + g = P ∧ Wrote w wr p q (xs ++ List.replicate k 0))
  case atStart => exact ⟨0, by omega, by simpa using Wrote.refl h⟩
  case round =>
    obtain ⟨k, hk, hwr⟩ := hrel
    have HF := Lib.hid (rep_add xs k)
    have hylen : (xs ++ List.replicate k (0 : UInt8)).length = xs.length + k := by simp
    have hmt := mod_test (xs.length + k) t
    rw [← hylen] at hmt
    obtain ⟨Y, hY⟩ : ∃ Y : List UInt8, Y = xs ++ List.replicate k 0 := ⟨_, rfl⟩
    rw [← hY] at hwr hylen hmt HF
    have HY := Lib.hid hY
    have HK := Lib.hid hk
    have HL := Lib.hid hylen
    have hYl : Y.length + 1 ≤ 140737488355328 := by omega
    have HW := Lib.hid hwr
    obtain ⟨q2, hb2, ht2, hq2⟩ := hwr
    obtain ⟨v, hv, hbv, hov, hne⟩ := hb2
    obtain ⟨a, c, rfl⟩ := own_form hov
    have h0 : wr.cell? ⟨p, 0, none⟩ = some (.slice a Y.length c) := hbv.cell 0
    have f0 : wr.frozen? ⟨p, 0, none⟩ = false := hbv.free 0
    have hpw := hbv.lt
    have HV := Lib.hid hv
    have HBV := Lib.hid hbv
    have HT := Lib.hid ht2
    have HQ := Lib.hid hq2
    clear hv hbv ht2 hq2 hY hk hylen
    have hb8 : (Y.map b8).length = Y.length := List.length_map _
    generalize hLL : Y.length = L at *
    clear hLL
    by_cases hg : gk = 0
    · have hkP : k = P := by have := HK.out; omega
      have hd : ((L : Int) % (t : Int) != 0) = false := by
        rw [mod_test, HL.out, hkP, HE.out]
        simp
      have hW : Wrote w wr p q (xs ++ List.replicate P 0) := by rw [← hkP, ← HY.out]; exact HW.out
      clear hmt hov HM HE hkP
      go_wp2
      go_ret
      exact ⟨rfl, hW⟩
    · have hd : ((L : Int) % (t : Int) != 0) = true := by
        rw [mod_test, HL.out, decide_eq_true]
        exact HM.out k (by have := HK.out; omega)
      clear hmt HM HE HW hb8
      go_wp2_with (at_builtin; refine wpList_append_lies _ rfl _ _ 128 rfl 0 5 i0 (.int .u8 0) 1 1 Tryz.underlying128 hi hz0 hz1 hz2 rfl (by decide) _ _ _ rfl (hov.alloc _) ⟨wr.heap.size, 0, none⟩ 1 1 [.int .u8 0] rfl rfl (cell_one_new _ _ _) (by simp [Value.oneCell']) (by omega) (by unfold maxLen; omega) (by omega) (Nat.zero_le _) (wr.heap.size + 1) (by simp) ?_)
      intro g cap w1 hown hgrow hat hlt2
      have hc1 : w1.cell? ⟨p, 0, none⟩ = some (.slice a L c) := (hgrow.cell_far ⟨p, 0, none⟩ (by simp; omega) (fun h => hne (HV.out.symm.trans h.symm))).trans ((World.cell?_alloc_past _ _ _ hpw).trans h0)
      have hf1 : w1.frozen? ⟨p, 0, none⟩ = false := (hgrow.frozen_far ⟨p, 0, none⟩ (by simp; omega) (fun h => hne (HV.out.symm.trans h.symm))).trans ((World.frozen?_alloc_past _ _ _ hpw).trans f0)
      have hYL : Y.length = L := by rw [HY.out, HL.out]; simp
      have R := wrote_append (T := 130) (E := 5) (xs := Y) (zs := [0]) HV.out HBV.out (by rw [hYL]; exact hov) hne ((Turns.refl _ wr).alloc _) (by rw [List.length_append, List.map_append, hYL]; exact hown) hgrow (by rcases hat with h | h; exact .inl h.symm; exact .inr ⟨g, rfl, by omega⟩)
      have R2 := Wrote.step HT.out HQ.out R
      rw [HF.out] at R2
      have R3 := Lib.hid R2
      clear R R2 hown hgrow hat hov h0 f0 HBV HV HT HQ HF hYL hd
      go_wp2
      go_roundg (gk - 1)
      case measure => omega
      case rel => exact ⟨k + 1, by have := HK.out; omega, R3.out⟩
end Go.Proofs.YtcppibjllaablaaGreat.wr
