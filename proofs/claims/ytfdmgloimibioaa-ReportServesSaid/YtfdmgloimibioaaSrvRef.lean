/-
  The reference's Serve.
-/
import Derived.Test.YtfdmgloimibioaaSrvPure
namespace Go.Proofs.Ytfdmgloimibioaa.rng
open Go.RowKit mem Go.Maps
open Go.Proofs.Ytfdmgloimibioaa.args (IntRow)
set_option linter.unusedVariables false

structure Rs (B : Nat) (w wr : World) (v v' vo : Value) (r : R) (L : List ByteArray) : Prop where
  rows : LR B wr v' r.L
  new : New w wr
  own : Owns SE StT wr vo L
  vob : ∀ g, vo.ownBlock = some g → w.heap.size ≤ g
  fr : v' = v ∨ ∀ g, v'.ownBlock = some g → w.heap.size ≤ g
  ap2 : ∀ g, v'.ownBlock = some g → vo.ownBlock ≠ some g
theorem Rs.later {B : Nat} {w w1 w2 : World} {v v' vo : Value} {r : R} {L : List ByteArray} (h : Rs B w w1 v v' vo r L) (n : New w1 w2) : Rs B w w2 v v' vo r L :=
  ⟨h.rows.turns n (fun _ _ h => h), h.new.trans (n.mono (fun _ _ h => h.elim)), h.own.turns n (fun _ _ h => h), h.vob, h.fr, h.ap2⟩
theorem Rs.asked {B : Nat} {w w1 w2 : World} {v v' v2 vo : Value} {r r' : R} {L : List ByteArray} (h : Rs B w w1 v v' vo r L) (hr : LR B w2 v2 r'.L) (hn : New w1 w2) (ha : v2 = v' ∨ ∀ g, v2.ownBlock = some g → w1.heap.size ≤ g) : Rs B w w2 v v2 vo r' L := by
  refine ⟨hr, h.new.trans (hn.mono (fun _ _ h => h.elim)), h.own.turns hn (fun _ _ h => h), h.vob, ?_, ?_⟩
  · rcases ha with rfl | ha
    · exact h.fr
    · exact .inr (fun g hg => by have := ha g hg; have := h.new.size; omega)
  · rcases ha with rfl | ha
    · exact h.ap2
    · intro g hg e
      have := ha g hg; have := h.own.lt g e; omega
theorem Rs.push {B : Nat} {w w1 w2 : World} {v v' vo vo' : Value} {r : R} {L : List ByteArray} {s : ByteArray} {o : Obj} (h : Rs B w w1 v v' vo r L) (ho : Owns SE StT w2 vo' (L ++ [s])) (hg : (w1.alloc o).grownBy w2 vo.ownBlock) (ha : vo'.ownBlock = vo.ownBlock ∨ vo'.ownBlock = some (w1.alloc o).heap.size) : Rs B w w2 v v' vo' r (L ++ [s]) := by
  have t2 : Turns (fun k => some k = vo.ownBlock) w1 w2 := ((Turns.refl _ _).alloc _).trans ((Turns.of_grown hg).mono (fun k _ hk => .inl hk))
  have hlt := h.rows.lt
  refine ⟨h.rows.turns' t2 (fun g hg e => h.ap2 g hg e.symm), h.new.trans (t2.mono (fun k _ hk => .inr (h.vob k hk.symm))), ho, ?_, h.fr, ?_⟩
  · intro g hg
    rcases ha with e | e
    · exact h.vob g (by rw [← e]; exact hg)
    · rw [e] at hg; injection hg with hg; have := h.new.size; simp at hg; omega
  · intro g hg e
    rcases ha with e2 | e2
    · exact h.ap2 g hg (by rw [← e2]; exact e)
    · rw [e2] at e; injection e with e; have := (hlt g hg).2; simp at e; omega

set_option maxHeartbeats 2000000 in
theorem rserve (B : Nat) (v : Value) (r : R) (now bytes : Int) (a : Option Addr) (n c : Nat) (z : Nat → Int) (w : World) (h : LR B w v r.L) (hok0 : r.ok) (hBw : B ≤ w.heap.size) (hl16 : r.L.length ≤ 4096) (m1 : r.most ≤ 1048576) (g1 : r.gap ≤ 1048576) (t0 : 0 ≤ now) (t1 : now ≤ 1048576) (b0 : -9223372036854775808 ≤ bytes) (b1 : bytes ≤ 9223372036854775807)
    (hz : IntRow .u16 w a n c z) (hn : n ≤ 1000) (hs : r.sent ≤ 1000000) :
    Calls Try.prog 33 #[v, .int .i64 r.most, .int .i64 r.gap, .slice a n c, .int .i64 now, .int .i64 bytes] w fun e w' => ∃ v' vo, e = .returned (.tuple #[v', vo]) ∧ Rs B w w' v v' vo (serveSt r now bytes z n).r (serveSt r now bytes z n).out := by
  obtain ⟨_, hwf, hcell⟩ := hz
  have HW := Lib.hid hwf
  have HC := Lib.hid hcell
  have hnm : n ≤ maxLen := by unfold maxLen; omega
  have HB0 : Hid (Rs B w (w.alloc (.cells #[] StT)) v v (.slice (some ⟨w.heap.size, 0, none⟩) 0 0) r []) := Lib.hid ⟨h.turns (S := fun _ => False) ((Turns.refl _ _).alloc _) (fun _ _ h => h), (Turns.refl _ _).alloc _, World.ownsRow_made w #[] 0 (Nat.zero_le _) (Nat.zero_le _) rfl,
    (fun g hg => by have : w.heap.size = g := by simpa [Value.ownBlock] using hg
                    omega), .inl rfl, (fun g hg e => by have h1 := (h.lt g hg).2; have : w.heap.size = g := by simpa [Value.ownBlock] using e
                                                        omega)⟩
  have HOK := Lib.hid (fun k (hk : k ≤ n) => serveSt_ok hok0 now bytes t0 t1 z k (by omega))
  have HLL := Lib.hid (And.intro hl16 (And.intro m1 (And.intro g1 hBw)))
  clear hwf hcell h hok0 hl16 m1 g1
  generalize hmo : r.most = mo at *
  generalize hga : r.gap = ga at *
  have HMG := Lib.hid (And.intro hmo hga)
  clear hmo hga
  go_enter Try.func33, Try.ntmps33
  go_upto_region 2 with fail
  refine (show Code.wp _ _ _ _ (w.alloc (.cells #[] StT)) from ?_)
  generalize hv0 : Value.slice (some ⟨w.heap.size, 0, none⟩) 0 0 = v0 at *
  clear hv0
  generalize w.alloc (.cells #[] StT) = w1 at *
  go_wp2_with fail
  go_loopw [0, 5, 14, 24] (fun vl bb vo i wr => ∃ k : Nat, k ≤ n ∧ i = .int .i64 k ∧ bb = .int .i64 (serveSt r now bytes z k).left ∧ (serveSt r now bytes z k).stop = false ∧ Rs B w wr v vl vo (serveSt r now bytes z k).r (serveSt r now bytes z k).out) (fun _ _ _ i _ => n - (intOf i).toNat)
  case atStart => exact ⟨0, Nat.zero_le _, rfl, rfl, rfl, HB0.out⟩
  case round =>
    obtain ⟨k, hk, rfl, rfl, hst, hsl⟩ := hrel
    have HSL := Lib.hid hsl
    clear hsl HB0
    by_cases hlt : k < n
    · obtain ⟨b, off, ha, hb, hcells⟩ := HC.out.resolve_left (by omega)
      have hcl := (HSL.out.new.cell (a := ⟨b, off + k, none⟩) hb (fun h => h)).trans (hcells k hlt)
      subst ha
      have hok := HOK.out k hk
      have hrs := hok.ok.s0
      have hsent := hok.sent
      have hsum := hok.sum
      have hpos := hok.pos
      have hnn := sizes_nonneg (serveSt r now bytes z k).out
      have hfew := hok.few
      have hke := hok.keep
      rw [HMG.out.1, HMG.out.2] at hke
      have hll : (serveSt r now bytes z k).r.L.length ≤ 4096 := by rw [hok.len]; exact HLL.out.1
      have HAG := Lib.hid (fun v' w' (hr : LR B w' v' (serveSt r now bytes z k).r.L) (hB : B ≤ w'.heap.size) => ragain B v' (serveSt r now bytes z k).r (z k) now w' hr hok.ok (by omega) hB (by rw [hke.2.1]; exact HLL.out.2.1) (by rw [hke.2.2]; exact HLL.out.2.2.1) t0 t1)
      rw [hke.2.1, hke.2.2] at HAG
      have HFI := Lib.hid (fun v' w' (hr : LR B w' v' (serveSt r now bytes z k).r.L) => rfind B v' (serveSt r now bytes z k).r.L (z k) w' hr (by omega))
      have hways := serve_ways now (serveSt r now bytes z k) (z k) hst
      have hstep : serveSt r now bytes z (k + 1) = serve1 now (serveSt r now bytes z k) (z k) := rfl
      rw [← hstep] at hways
      have HSTOP := Lib.hid (fun (hs : (serveSt r now bytes z (k + 1)).stop = true) => serveSt_stop r now bytes z (k + 1) n hlt hs)
      have hbb : -9223372036854775808 ≤ (serveSt r now bytes z k).left ∧ (serveSt r now bytes z k).left ≤ 9223372036854775807 := by
        rcases hpos with e | e
        · rw [e] at hsum; simp [sizes] at hsum; omega
        · omega
      obtain ⟨hl0, hl1⟩ := hbb
      have HBW : Hid (B ≤ w.heap.size) := Lib.hid HLL.out.2.2.2
      clear hcells hb hok hrs hsent hsum hpos hnn hstep hke
      generalize hs0 : serveSt r now bytes z k = s at *
      clear hs0
      generalize hqk : z k = q at *
      clear hqk
      obtain ⟨g, o, c', hv', hcc, hcm, hBg, hgl, hcell⟩ := HSL.out.rows.cell
      rcases hways with ⟨hf, hst1⟩ | ⟨i, x, hf, hx, hlt5, hst1⟩ | ⟨i, x, hf, hx, hle5, hE, hS, hst1⟩ | ⟨i, x, hf, hx, hle5, hE, hR, hst1⟩
      · have HFI2 := HFI.out _ _ HSL.out.rows
        rw [show idxI s.r.L q = -1 by unfold idxI; rw [hf]] at HFI2
        have HF2 := Lib.hid HFI2
        have HST := Lib.hid hst1
        clear hst1 hf HAG HSTOP HFI HFI2 hcell
        subst hv'
        go_wp2_with fail
        refine HF2.out.mono ?_
        rintro e w2 ⟨rfl, hn2⟩
        have HS2 := Lib.hid (HSL.out.later hn2)
        clear hn2
        go_wp2_with fail
        go_roundw
        case rel => exact ⟨k + 1, by omega, by go_num, by rw [HST.out], by rw [HST.out]; exact hst, by rw [HST.out]; exact HS2.out⟩
        case measure => simp [intOf]; omega
      all_goals
        have HFI2 := HFI.out _ _ HSL.out.rows
        rw [show idxI s.r.L q = (i : Int) by unfold idxI; rw [hf]] at HFI2
        have HF2 := Lib.hid HFI2
        have hil := lastIdx_lt hf
        have HXT : Hid (∀ w', New _ w' → w'.cell? ⟨g, o + i * 4 + 1, none⟩ = some (.string x.t)) := Lib.hid (fun w' hn => (hn.cell (a := ⟨g, o + i * 4 + 1, none⟩) hgl (fun h => h)).trans (hcell i x hx 1 _ rfl))
        have hlm : s.r.L.length ≤ maxLen := by unfold maxLen; omega
        have i0 : (0 : Int) ≤ (i : Int) := by omega
        have i1 : (i : Int) < (s.r.L.length : Int) := by omega
      · have HFIN : Hid (Rs B w _ v _ _ (serveSt r now bytes z n).r (serveSt r now bytes z n).out) := Lib.hid (by rw [HSTOP.out (by rw [hst1]), hst1]; exact HSL.out)
        clear hst1 hf hx HAG HSTOP HFI HFI2 hcell
        generalize x.t = xt at *
        subst hv'
        go_wp2_with fail
        refine HF2.out.mono ?_
        rintro e w2 ⟨rfl, hn2⟩
        have hxt := HXT.out _ hn2
        have HFIN2 := Lib.hid (HFIN.out.later hn2)
        clear hn2
        go_wp2
        go_returns
        exact ⟨_, _, rfl, HFIN2.out⟩
      · have HST := Lib.hid hst1
        have HAG2 := Lib.hid (fun v' w' hr hB => by have := HAG.out v' w' hr hB; rw [hE, hS] at this; exact this)
        clear hst1 hf hx HAG HSTOP HFI HFI2 hcell hE hS
        generalize againR s.r q now = r' at *
        generalize x.t = xt at *
        subst hv'
        have hw5 : IntKind.i64.wrap (s.left - (xt.size : Int)) = s.left - (xt.size : Int) := IntWalk.i64_in _ (by omega)
        go_wp2_with fail
        refine HF2.out.mono ?_
        rintro e w2 ⟨rfl, hn2⟩
        have hxt := HXT.out _ hn2
        have HS2 := Lib.hid (HSL.out.later hn2)
        clear hn2
        go_wp2_with fail
        refine (HAG2.out _ _ HS2.out.rows (by have := HS2.out.new.size; have := HBW.out; omega)).mono ?_
        rintro e w3 ⟨v3, rfl, hr3, hn3, ha3⟩
        have HS3 := Lib.hid (HS2.out.asked hr3 hn3 ha3)
        clear hr3 hn3 ha3
        go_wp2_with (at_builtin; refine wpList_append_one (E := SE) Try.underlying40 infoStr rfl (by decide) (by decide) rfl _ _ rfl _ s.out xt rfl (HS3.out.own.turns (S := fun _ => False) ((Turns.refl _ _).alloc _) (fun _ _ h => h)) w3.heap.size rfl (heap_alloc_new w3 _) (by omega) ?_; intro v4 w4 hown4 hgrow4 hat4)
        have HS4 := Lib.hid (HS3.out.push hown4 hgrow4 hat4)
        clear hown4 hgrow4 hat4
        go_roundw
        case rel => exact ⟨k + 1, by omega, by go_num, by rw [HST.out], by rw [HST.out], by rw [HST.out]; exact HS4.out⟩
        case measure => simp [intOf]; omega
      · have HST := Lib.hid hst1
        have HAG2 := Lib.hid (fun v' w' hr hB => by have := HAG.out v' w' hr hB; rw [hR] at this; exact this)
        clear hst1 hf hx HAG HSTOP HFI HFI2 hcell hR
        generalize againS s.r q now = ss at *
        generalize againE s.r q now = ee at *
        have hee : (ee == 0) = false := by simpa using hE
        generalize x.t = xt at *
        subst hv'
        clear hE
        go_wp2_with fail
        refine HF2.out.mono ?_
        rintro e w2 ⟨rfl, hn2⟩
        have hxt := HXT.out _ hn2
        have HS2 := Lib.hid (HSL.out.later hn2)
        clear hn2
        go_wp2_with fail
        refine (HAG2.out _ _ HS2.out.rows (by have := HS2.out.new.size; have := HBW.out; omega)).mono ?_
        rintro e w3 ⟨v3, rfl, hr3, hn3, ha3⟩
        have HS3 := Lib.hid (HS2.out.asked hr3 hn3 ha3)
        clear hr3 hn3 ha3
        go_wp2_with fail
        go_roundw
        case rel => exact ⟨k + 1, by omega, by go_num, by rw [HST.out], by rw [HST.out]; exact hst, by rw [HST.out]; exact HS3.out⟩
        case measure => simp [intOf]; omega
    · obtain rfl : k = n := by omega
      obtain ⟨g, o, c', hv', _⟩ := HSL.out.rows.cell
      subst hv'
      clear hlt hk
      go_wp2
      go_returns
      exact ⟨_, _, rfl, HSL.out⟩
end Go.Proofs.Ytfdmgloimibioaa.rng
