/-
  report.Serve.
-/
import Derived.Test.YtfdmgloimibioaaSrvPure
namespace Go.Proofs.Ytfdmgloimibioaa.rng
open Go.RowKit mem Go.Maps
open Go.Proofs.Ytfdmgloimibioaa.args (IntRow)
set_option linter.unusedVariables false

theorem New.left {w w1 w2 : World} {p bm k : Nat} {pv : Value} {r : R} (h : Left w w1 p bm pv k r) (n : New w1 w2) : Left w w2 p bm pv k r :=
  ⟨h.1.turns n (fun h => h) (fun h => h) (fun _ _ h => h), h.2.trans (n.mono (fun _ _ h => h.elim))⟩

/-- what the loop of Serve holds -/
structure Sl (w wr : World) (p bm : Nat) (pv : Value) (m : Nat) (v : Value) (r : R) (L : List ByteArray) : Prop where
  own : Owns SE StT wr v L
  vb : ∀ g, v.ownBlock = some g → w.heap.size ≤ g
  left : Left w wr p bm pv m r
theorem Sl.asked {w w1 w2 : World} {p bm m : Nat} {pv v : Value} {r r' : R} {L : List ByteArray} (h : Sl w w1 p bm pv m v r L) (hf : ∀ i, Foot p bm pv i → i < w.heap.size) (h2 : Left w1 w2 p bm pv m r') : Sl w w2 p bm pv m v r' L :=
  ⟨h.own.turns h2.2 (fun g hg hfo => by have := h.vb g hg; have := hf g hfo; omega), h.vb, h.left.trans h2⟩
theorem Sl.push {w w1 w2 : World} {p bm m : Nat} {pv v v' : Value} {r : R} {L : List ByteArray} {s : ByteArray} {o : Obj} (h : Sl w w1 p bm pv m v r L) (hf : ∀ i, Foot p bm pv i → i < w.heap.size) (ho : Owns SE StT w2 v' (L ++ [s])) (hg : (w1.alloc o).grownBy w2 v.ownBlock) (ha : v'.ownBlock = v.ownBlock ∨ v'.ownBlock = some (w1.alloc o).heap.size) : Sl w w2 p bm pv m v' r (L ++ [s]) := by
  have t2 : Turns (fun k => some k = v.ownBlock) w1 w2 := ((Turns.refl _ _).alloc _).trans ((Turns.of_grown hg).mono (fun k _ hk => .inl hk))
  refine ⟨ho, ?_, ?_, h.left.2.trans (t2.mono (fun k _ hk => .inr (h.vb k hk.symm)))⟩
  · intro g hg
    rcases ha with e | e
    · exact h.vb g (by rw [← e]; exact hg)
    · rw [e] at hg; injection hg with hg; have := h.left.2.size; simp at hg; omega
  · refine h.left.1.turns t2 (fun e => ?_) (fun e => ?_) (fun g hg e => ?_)
    · have := h.vb p e.symm; have := hf p (.inl rfl); omega
    · have := h.vb bm e.symm; have := hf bm (.inr (.inl rfl)); omega
    · have := h.vb g e.symm; have := hf g (.inr (.inr hg)); omega

set_option maxHeartbeats 2000000 in
theorem serve (p bm : Nat) (pv : Value) (m : Nat) (r : R) (now bytes : Int) (a : Option Addr) (n c : Nat) (z : Nat → Int) (w : World) (h : Rg w p bm pv m r) (t0 : 0 ≤ now) (t1 : now ≤ 1048576) (b0 : -9223372036854775808 ≤ bytes) (b1 : bytes ≤ 9223372036854775807)
    (hz : IntRow .u16 w a n c z) (hcf : ∀ b off, n ≠ 0 → a = some ⟨b, off, none⟩ → ¬ Foot p bm pv b) (hn : n ≤ 1000) (hs : r.sent ≤ 1000000) :
    Calls Try.prog 32 #[.pointer (some ⟨p, 0, none⟩), .agg #[.slice a n c, .bool false, .int .u64 0, .bool false], .int .i64 now, .int .i64 bytes] w fun e w' => ∃ v', e = .returned v' ∧ Sl w w' p bm pv m v' (serveSt r now bytes z n).r (serveSt r now bytes z n).out := by
  obtain ⟨_, hwf, hcell⟩ := hz
  have HW := Lib.hid hwf
  have HC := Lib.hid hcell
  have HCF := Lib.hid hcf
  have hnm : n ≤ maxLen := by unfold maxLen; omega
  have HF : Hid (∀ i, Foot p bm pv i → i < w.heap.size) := Lib.hid (by
    intro i hi
    rcases hi with rfl | rfl | hi
    · exact h.lt
    · exact h.mlt
    · exact h.vlt i hi)
  have hb0 : Sl w (w.alloc (.cells #[.slice a n c, .bool false, .int .u64 0, .bool false] 87)) p bm pv m (.slice none 0 0) r [] := ⟨Owns.nil _ _, fun g hg => by simp [Value.ownBlock] at hg, New.left ⟨h, Turns.refl _ _⟩ ((Turns.refl _ _).alloc _)⟩
  have HB0 : Hid (Sl w (w.alloc (.cells #[.slice a n c, .bool false, .int .u64 0, .bool false] 87)) p bm pv m (.slice none 0 0) r []) := Lib.hid hb0
  have HOK := Lib.hid (fun k (hk : k ≤ n) => serveSt_ok h.ok now bytes t0 t1 z k (by omega))
  clear hwf hcell hcf h hb0
  go_enter Try.func32, Try.ntmps32
  go_wp2_with fail
  go_loopw [3, 9, 19] (fun bb v i wr => ∃ k : Nat, k ≤ n ∧ i = .int .i64 k ∧ bb = .int .i64 (serveSt r now bytes z k).left ∧ (serveSt r now bytes z k).stop = false ∧ Sl w wr p bm pv m v (serveSt r now bytes z k).r (serveSt r now bytes z k).out) (fun _ _ i _ => n - (intOf i).toNat)
  case atStart => exact ⟨0, Nat.zero_le _, rfl, rfl, rfl, HB0.out⟩
  case round =>
    obtain ⟨k, hk, rfl, rfl, hst, hsl⟩ := hrel
    have HSL := Lib.hid hsl
    clear hsl HB0
    by_cases hlt : k < n
    · obtain ⟨b, off, ha, hb, hcells⟩ := HC.out.resolve_left (by omega)
      have hnf := HCF.out b off (by omega) ha
      have hcl := (HSL.out.left.2.cell (a := ⟨b, off + k, none⟩) hb hnf).trans (hcells k hlt)
      subst ha
      have hq := HW.out k hlt
      have hq0 : 0 ≤ z k := by simp [Lit.wf, IntKind.min, IntKind.max, IntKind.bits, IntKind.signed] at hq; omega
      have hq1 : z k ≤ 65535 := by simp [Lit.wf, IntKind.min, IntKind.max, IntKind.bits, IntKind.signed] at hq; omega
      have hok := HOK.out k hk
      have hrs := hok.ok.s0
      have hsent := hok.sent
      have hsum := hok.sum
      have hpos := hok.pos
      have hnn := sizes_nonneg (serveSt r now bytes z k).out
      have hfew := hok.few
      have HAG := Lib.hid (fun w' (hr : Rg w' p bm pv m (serveSt r now bytes z k).r) => again p bm pv m (serveSt r now bytes z k).r (z k) now w' hr hq0 hq1 t0 t1 (by omega))
      have hways := serve_ways now (serveSt r now bytes z k) (z k) hst
      have hstep : serveSt r now bytes z (k + 1) = serve1 now (serveSt r now bytes z k) (z k) := rfl
      rw [← hstep] at hways
      have HSTOP := Lib.hid (fun (hs : (serveSt r now bytes z (k + 1)).stop = true) => serveSt_stop r now bytes z (k + 1) n hlt hs)
      have hbb : -9223372036854775808 ≤ (serveSt r now bytes z k).left ∧ (serveSt r now bytes z k).left ≤ 9223372036854775807 := by
        rcases hpos with e | e
        · rw [e] at hsum; simp [sizes] at hsum; omega
        · omega
      obtain ⟨hl0, hl1⟩ := hbb
      clear hcells hb hnf hq hok hrs hsent hsum hpos hnn hstep
      generalize hs0 : serveSt r now bytes z k = s at *
      clear hs0
      generalize hqk : z k = q at *
      clear hqk
      rcases hways with ⟨hf, hst1⟩ | ⟨i, x, hf, hx, hlt5, hst1⟩ | ⟨i, x, hf, hx, hle5, hE, hS, hst1⟩ | ⟨i, x, hf, hx, hle5, hE, hR, hst1⟩
      · have HG := Lib.hid (get_none p bm pv m s.r q _ HSL.out.left.1 hq0 hq1 hf)
        have HST := Lib.hid hst1
        clear hst1 hf HAG HSTOP
        go_wp2_with fail
        refine HG.out.mono ?_
        rintro e w2 ⟨rfl, rfl⟩
        go_wp2_with fail
        go_roundw
        case rel => exact ⟨k + 1, by omega, by go_num, by rw [HST.out], by rw [HST.out]; exact hst, by rw [HST.out]; exact HSL.out⟩
        case measure => simp [intOf]; omega
      · have HG := Lib.hid (get_some p bm pv m s.r q i x _ HSL.out.left.1 hq0 hq1 hf hx)
        have HFIN : Hid (Sl w _ p bm pv m _ (serveSt r now bytes z n).r (serveSt r now bytes z n).out) := Lib.hid (by rw [HSTOP.out (by rw [hst1]), hst1]; exact HSL.out)
        clear hst1 hf hx HAG HSTOP
        generalize x.t = xt at *
        go_wp2_with fail
        refine HG.out.mono ?_
        rintro e w2 ⟨rfl, rfl⟩
        go_wp2
        go_ret
        exact ⟨_, rfl, HFIN.out⟩
      · have HG := Lib.hid (get_some p bm pv m s.r q i x _ HSL.out.left.1 hq0 hq1 hf hx)
        have HST := Lib.hid hst1
        have HA2 := HAG.out _ HSL.out.left.1
        rw [hE] at HA2
        have HA3 := Lib.hid HA2
        clear hst1 hf hx HAG HSTOP hE HA2 hS
        generalize againS s.r q now = ss at *
        generalize againR s.r q now = r' at *
        generalize hxt : x.t = xt at *
        clear hxt
        have hw5 : IntKind.i64.wrap (s.left - (xt.size : Int)) = s.left - (xt.size : Int) := IntWalk.i64_in _ (by omega)
        go_wp2_with fail
        refine HG.out.mono ?_
        rintro e w2 ⟨rfl, rfl⟩
        go_wp2_with fail
        refine HA3.out.mono ?_
        rintro e w3 ⟨rfl, h3⟩
        have HS3 := Lib.hid (HSL.out.asked HF.out h3)
        clear h3
        go_wp2_with (at_builtin; refine wpList_append_one (E := SE) Try.underlying40 infoStr rfl (by decide) (by decide) rfl _ _ rfl _ s.out xt rfl (HS3.out.own.turns (S := fun _ => False) ((Turns.refl _ _).alloc _) (fun _ _ h => h)) w3.heap.size rfl (heap_alloc_new w3 _) (by omega) ?_; intro v4 w4 hown4 hgrow4 hat4)
        have HS4 := Lib.hid (HS3.out.push HF.out hown4 hgrow4 hat4)
        clear hown4 hgrow4 hat4
        go_roundw
        case rel => exact ⟨k + 1, by omega, by go_num, by rw [HST.out], by rw [HST.out], by rw [HST.out]; exact HS4.out⟩
        case measure => simp [intOf]; omega
      · have HG := Lib.hid (get_some p bm pv m s.r q i x _ HSL.out.left.1 hq0 hq1 hf hx)
        have HST := Lib.hid hst1
        have HA2 := HAG.out _ HSL.out.left.1
        rw [hR] at HA2
        have HA3 := Lib.hid HA2
        clear hst1 hf hx HAG HSTOP HA2 hR
        generalize againS s.r q now = ss at *
        generalize againE s.r q now = ee at *
        have hee : (ee == 0) = false := by simpa using hE
        generalize x.t = xt at *
        clear hE
        go_wp2_with fail
        refine HG.out.mono ?_
        rintro e w2 ⟨rfl, rfl⟩
        go_wp2_with fail
        refine HA3.out.mono ?_
        rintro e w3 ⟨rfl, h3⟩
        have HS3 := Lib.hid (HSL.out.asked HF.out h3)
        clear h3
        go_wp2_with fail
        go_roundw
        case rel => exact ⟨k + 1, by omega, by go_num, by rw [HST.out], by rw [HST.out]; exact hst, by rw [HST.out]; exact HS3.out⟩
        case measure => simp [intOf]; omega
    · obtain rfl : k = n := by omega
      clear hlt hk
      go_wp2
      go_ret
      exact ⟨_, rfl, HSL.out⟩
end Go.Proofs.Ytfdmgloimibioaa.rng
