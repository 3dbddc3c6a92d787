/-
  ReportAsked: what is asked of another source.
-/
import Derived.Test.YtfdmgloimibioaaRepFive
import Derived.Deep.CutBlock
namespace Go.Proofs.Ytfdmgloimibioaa.rep
open Go.RowKit mem
open Go.Proofs.Ytfdmgloimibioaa.args (IntRow)
set_option linter.unusedVariables false

theorem row_new {w w' : World} {a : Option Addr} {n m c : Nat} {z : Nat → Int} (h : IntRow .u16 w a n c z) (hm : m ≤ n) (k : New w w') : IntRow .u16 w' a m c z := by
  obtain ⟨h1, h2, h3⟩ := h
  refine ⟨by omega, fun i hi => h2 i (by omega), ?_⟩
  rcases h3 with h3 | ⟨b, off, rfl, hb, hc⟩
  · exact .inl (by omega)
  · exact .inr ⟨b, off, rfl, Nat.lt_of_lt_of_le hb k.size, fun i hi => (k.cell (a := ⟨b, off + i, none⟩) hb (fun h => h)).trans (hc i (by omega))⟩

theorem rdP_of {w : World} {ao : Option Addr} {l : List PP} (h : Reads PPE w ao l) : RdP w ao l := by
  rcases h with h0 | ⟨g, e, hg, hc⟩
  · exact .inl (by simpa using h0)
  · refine .inr ⟨g, 0, e, hg, fun k x hx => ⟨?_, ?_⟩⟩
    · rw [Nat.zero_add]; exact hc k x hx 0 _ rfl
    · rw [Nat.zero_add]; exact hc k x hx 1 _ rfl

abbrev W6 (w : World) (other bits : Int) (ao : Option Addr) (n cc : Nat) : World :=
  (((w.alloc (.cells #[.int .u32 other, .int .u8 0] 102)).alloc (.cells #[.int .u32 other] 54)).alloc (.cells #[.int .u32 other] 54)).alloc
    (.cells #[nackV 0 other ao n cc, pliV 0 other, firV 0 (some ⟨w.heap.size, 0, none⟩) 1 1, rembV 0 bits (some ⟨w.heap.size + 1, 0, none⟩) 1 1, byeV (some ⟨w.heap.size + 1 + 1, 0, none⟩) 1 1 ⟨#[]⟩] PkT)
theorem w6_new (w : World) (other bits : Int) (ao : Option Addr) (n cc : Nat) : New w (W6 w other bits ao n cc) := ((((Turns.refl _ _).alloc _).alloc _).alloc _).alloc _
theorem w6_five (ssrc other bits : Int) (ao : Option Addr) (cc : Nat) (l : List PP) (w : World) (h0 : 0 ≤ bits) (hr : RdP w ao l) (hl : l.length ≤ 1000) (hok : ∀ x ∈ l, x.ok) :
    Calls Try.prog 31 #[.int .u32 ssrc, .slice (some ⟨w.heap.size + 1 + 1 + 1, 0, none⟩) 5 5] (W6 w other bits ao l.length cc) fun e w' => ∃ v, e = .returned (.agg (ascs v (stA (other == ssrc) (sqAll l) bits 5))) ∧ Owns UE U16 w' v (stA (other == ssrc) (sqAll l) bits 5).q ∧ New w w' := by
  have e1 : (w.alloc (.cells #[.int .u32 other, .int .u8 0] 102)).heap.size = w.heap.size + 1 := by simp
  have e2 : ((w.alloc (.cells #[.int .u32 other, .int .u8 0] 102)).alloc (.cells #[.int .u32 other] 54)).heap.size = w.heap.size + 1 + 1 := by simp
  have e3 : (((w.alloc (.cells #[.int .u32 other, .int .u8 0] 102)).alloc (.cells #[.int .u32 other] 54)).alloc (.cells #[.int .u32 other] 54)).heap.size = w.heap.size + 1 + 1 + 1 := by simp
  refine (five ssrc other bits ao cc l (w.heap.size + 1 + 1 + 1) w.heap.size (w.heap.size + 1) (w.heap.size + 1 + 1) _ h0 (hr.new (w6_new w other bits ao l.length cc)) hl hok ?_ ?_ ?_ ?_).mono ?_
  · have h := Blk.new (((w.alloc (.cells #[.int .u32 other, .int .u8 0] 102)).alloc (.cells #[.int .u32 other] 54)).alloc (.cells #[.int .u32 other] 54)) #[nackV 0 other ao l.length cc, pliV 0 other, firV 0 (some ⟨w.heap.size, 0, none⟩) 1 1, rembV 0 bits (some ⟨w.heap.size + 1, 0, none⟩) 1 1, byeV (some ⟨w.heap.size + 1 + 1, 0, none⟩) 1 1 ⟨#[]⟩] PkT
    rw [e3] at h; exact h
  · exact (((Blk.new w _ _).alloc _).alloc _).alloc _
  · have h := Blk.new (w.alloc (.cells #[.int .u32 other, .int .u8 0] 102)) #[.int .u32 other] 54
    rw [e1] at h; exact (h.alloc _).alloc _
  · have h := Blk.new ((w.alloc (.cells #[.int .u32 other, .int .u8 0] 102)).alloc (.cells #[.int .u32 other] 54)) #[.int .u32 other] 54
    rw [e2] at h; exact h.alloc _
  · rintro e w' ⟨v, rfl, ho, hn⟩
    exact ⟨v, rfl, ho, (w6_new w other bits ao l.length cc).trans (hn.mono (fun _ _ h => h.elim))⟩

set_option maxHeartbeats 2000000 in
set_option maxRecDepth 100000 in
theorem asked_law (ssrc other : Int) (a : Option Addr) (n c : Nat) (z : Nat → Int) (bits : Int) (w : World) (g0 : 0 ≤ ssrc) (g0' : ssrc ≤ 4294967295) (g1 : 0 ≤ other) (g1' : other ≤ 4294967295)
    (hrow : IntRow .u16 w a n c z) (hcap : n ≤ c) (g3 : 0 ≤ bits) (g3' : bits ≤ 18446744073709551615) :
    Calls Try.prog 10 #[.int .u32 ssrc, .int .u32 other, .slice a n c, .int .u64 bits] w fun e w' => e = .returned (.bool true) ∧ Below w.heap.size w w' := by
  have hn0 := hrow.1
  unfold maxLen at hn0
  have HROW := Lib.hid hrow
  clear hrow
  go_enter Try.func10, Try.ntmps10
  go_wp2_with fail
  refine (awake w).mono ?_
  rintro e w1 ⟨rfl, n1⟩
  have HN1 := Lib.hid n1
  clear n1
  go_upto_if 15 with fail
  go_cut [2] (fun v wx => ∃ m : Nat, m ≤ n ∧ m ≤ 12 ∧ v = .slice a m c ∧ wx = w1)
  case first =>
    by_cases hbig : 12 < n
    · have h1 : (12 : Int) < (n : Int) := by omega
      have h2 : 12 ≤ c := by omega
      go_wp2_with fail
      go_meet
      case rel => exact ⟨12, by omega, by omega, rfl, rfl⟩
    · have h1 : ¬ (12 : Int) < (n : Int) := by omega
      go_wp2_with fail
      go_meet
      case rel => exact ⟨n, by omega, by omega, rfl, rfl⟩
  case rest =>
    obtain ⟨m, hmn, hm, rfl, rfl⟩ := hcut
    have HP := Lib.hid (fun W (N : New w W) => pairs a m c z W (row_new HROW.out hmn N) (by omega))
    have hps := psF_ok z m (fun i hi => by
      have hq := HROW.out.2.1 i (by omega)
      simp [Lit.wf, IntKind.min, IntKind.max, IntKind.bits, IntKind.signed] at hq; omega)
    have HOK := Lib.hid hps.1
    have HLEN : Hid ((psF z m).length ≤ 12) := Lib.hid (by omega)
    clear hps HROW hcap hn0
    generalize psF z m = l at *
    go_wp2_with fail
    refine (HP.out _ HN1.out).mono ?_
    rintro e w2 ⟨v2, rfl, hgr⟩
    obtain ⟨ao, cc, hv, hcc, hrd, _⟩ := hgr.own.form
    subst hv
    have HF := Lib.hid (w6_five ssrc other bits ao cc l w2 g3 (rdP_of hrd) (by have := HLEN.out; omega) HOK.out)
    have HN2 := Lib.hid (HN1.out.trans (hgr.n.mono (fun _ _ h => h.elim)))
    have HSQ := Lib.hid (fun W ao c (h : RdP W ao l) => seqs 0 0 ao c l W h (by have := HLEN.out; omega) HOK.out)
    have hll := sqAll_len l
    have HLK : Hid ((sqAll l).length ≤ 1000) := Lib.hid (by have := HLEN.out; omega)
    clear hgr hrd hcc hll HN1
    generalize sqAll l = K at *
    go_wp2_with fail
    refine HF.out.mono ?_
    rintro e w3 ⟨v3, rfl, ho3, hn3⟩
    obtain ⟨a3, c3, hv3, _⟩ := ho3.form
    subst hv3
    have HN3 := Lib.hid (HN2.out.trans (hn3.mono (fun _ _ h => h.elim)))
    clear ho3 hn3 HF HN2
    by_cases heq : other = ssrc
    · subst heq
      have h1 : (other == other) = true := by simp
      rw [h1]
      have HB4 : Hid (Blk (w3.alloc (.cells (ascs (.slice a3 K.length c3) ⟨K, true, bits, true⟩) AT)) w3.heap.size (ascs (.slice a3 K.length c3) ⟨K, true, bits, true⟩) AT ∧ New w (w3.alloc (.cells (ascs (.slice a3 K.length c3) ⟨K, true, bits, true⟩) AT))) := Lib.hid ⟨Blk.new _ _ _, HN3.out.alloc _⟩
      go_upto_region 9 with fail
      refine (show Code.wp _ _ _ _ (w3.alloc (.cells (ascs (.slice a3 K.length c3) ⟨K, true, bits, true⟩) AT)) from ?_)
      generalize w3.alloc (.cells (ascs (.slice a3 K.length c3) ⟨K, true, bits, true⟩) AT) = w4 at *
      generalize w3.heap.size = pa at *
      have hb4 := HB4.out.1
      obtain ⟨c0, c1, c2, c3'⟩ : _ ∧ _ ∧ _ ∧ _ := ⟨hb4.cell 0, hb4.cell 1, hb4.cell 2, hb4.cell 3⟩
      have HB := Lib.hid (fun W (N : New w4 W) => N.blk hb4 (fun h => h))
      have HN4 := Lib.hid HB4.out.2
      clear hb4 HB4 HN3
      go_region_law
        (first
          | (go_simp; go_at_call 35; (refine (HSQ.out _ _ _ (by first | exact rdP_of hrd5 | exact (rdP_of hrd5).new ((Turns.refl (fun _ => False) _).drew) | exact (rdP_of hrd5).new ((Turns.refl (fun _ => False) _).drew.drew))).mono ?_); rintro en w6 ⟨v6, rfl, hg6⟩; obtain ⟨a6, c6, hv6, _⟩ := hg6.own.form; subst hv6; have N6 : New w4 w6 := (by first | exact N5.trans (hg6.n.mono (fun _ _ h => h.elim)) | exact N5.drew.trans (hg6.n.mono (fun _ _ h => h.elim)) | exact N5.drew.drew.trans (hg6.n.mono (fun _ _ h => h.elim))); have hb6 := HB.out w6 N6; obtain ⟨q0, q1, q2, q3⟩ : _ ∧ _ ∧ _ ∧ _ := ⟨hb6.cell 0, hb6.cell 1, hb6.cell 2, hb6.cell 3⟩; clear hb6 hg6)
          | (go_simp; go_at_call 34; (refine (HP.out _ (by first | exact HN4.out | exact HN4.out.drew | exact HN4.out.drew.drew)).mono ?_); rintro en w5 ⟨v5, rfl, hg5⟩; obtain ⟨a5, cc5, hv5, _, hrd5, _⟩ := hg5.own.form; subst hv5; have N5 : New w4 w5 := (by first | exact hg5.n | exact ((Turns.refl _ w4).drew).trans (hg5.n.mono (fun _ _ h => h.elim)) | exact ((Turns.refl _ w4).drew.drew).trans (hg5.n.mono (fun _ _ h => h.elim))); have hb5 := HB.out w5 N5; have k0 := hb5.cell 0; clear hb5 hg5))
      all_goals
        go_wp2
        go_ret
        exact ⟨rfl, (HN4.out.trans (N6.mono (fun _ _ h => h.elim))).below (Nat.le_refl _) (fun _ _ h => h.elim)⟩
    · have h1 : (other == ssrc) = false := by simpa using heq
      have h2 : (ssrc == other) = false := by simpa using fun h => heq h.symm
      rw [h1]
      go_wp2
      go_ret
      exact ⟨rfl, (HN3.out.alloc _).below (Nat.le_refl _) (fun _ _ h => h.elim)⟩
end Go.Proofs.Ytfdmgloimibioaa.rep
