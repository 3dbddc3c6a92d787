/-
  ring.Ring: All.
-/
import Derived.Test.YtfdmgloimibioaaRngRun
import Derived.Test.YtfdmgloimibioaaArgs
namespace Go.Proofs.Ytfdmgloimibioaa.rng
open Go.RowKit mem Go.Maps
open Go.Proofs.Ytfdmgloimibioaa.args (IntRow)
set_option linter.unusedVariables false

def SE : Enc ByteArray := ⟨1, fun s => [.string s], fun _ => rfl, by intro a u hu; simp at hu; subst hu; rfl⟩
abbrev StT : TypeId := 9
theorem infoStr : (Try.prog.info? StT).map (fun i => (i.zero, i.size, i.bytes)) = some (some (.string ⟨#[]⟩), 1, 16) := by kernel_rfl

/-- the ring and the texts behind k numbers that were asked for -/
def allSt (r : R) (now : Int) (z : Nat → Int) : Nat → R × List ByteArray
  | 0 => (r, [])
  | k + 1 => (againR (allSt r now z k).1 (z k) now, if againE (allSt r now z k).1 (z k) now = 0 then (allSt r now z k).2 ++ [againS (allSt r now z k).1 (z k) now] else (allSt r now z k).2)
theorem allSt_len (r : R) (now : Int) (z : Nat → Int) (k : Nat) : (allSt r now z k).2.length ≤ k := by
  induction k with
  | zero => exact Nat.le_refl _
  | succ k ih =>
    unfold allSt; dsimp only
    split
    · rw [List.length_append, List.length_singleton]; omega
    · omega
theorem allSt_sent (r : R) (now : Int) (z : Nat → Int) (k : Nat) : (allSt r now z k).1.sent ≤ r.sent + k := by
  induction k with
  | zero => simp [allSt]
  | succ k ih =>
    unfold allSt; dsimp only
    rcases againR_sent (allSt r now z k).1 (z k) now with e | e <;> rw [e] <;> omega
/-- how many went -/
theorem allSt_count (r : R) (now : Int) (z : Nat → Int) (k : Nat) : (allSt r now z k).1.sent = r.sent + (allSt r now z k).2.length := by
  induction k with
  | zero => simp [allSt]
  | succ k ih =>
    unfold allSt; dsimp only
    have h : (againR (allSt r now z k).1 (z k) now).sent = (allSt r now z k).1.sent + (if againE (allSt r now z k).1 (z k) now = 0 then 1 else 0) := by
      generalize (allSt r now z k).1 = q
      unfold againE againR findR
      cases hf : lastIdx q.L (z k) with
      | none => simp
      | some i =>
        obtain ⟨x, hx, _⟩ := lastIdx_some hf
        simp only [hx]
        split
        · simp
        · split <;> simp
    rw [h, ih]
    split <;> simp <;> omega

theorem Left.trans {w w1 w2 : World} {p bm k : Nat} {pv : Value} {r r' : R} (h : Left w w1 p bm pv k r) (h2 : Left w1 w2 p bm pv k r') : Left w w2 p bm pv k r' := ⟨h2.1, h.2.trans (h2.2.mono (fun _ _ h => .inl h))⟩

set_option maxHeartbeats 1000000 in
theorem all (p bm : Nat) (pv : Value) (m : Nat) (r : R) (now : Int) (a : Option Addr) (n c : Nat) (z : Nat → Int) (w : World) (h : Rg w p bm pv m r) (t0 : 0 ≤ now) (t1 : now ≤ 1048576) (hz : IntRow .u16 w a n c z) (hcf : ∀ b off, n ≠ 0 → a = some ⟨b, off, none⟩ → ¬ Foot p bm pv b) (hn : n ≤ 1000) (hs : r.sent ≤ 1000000) :
    Calls Try.prog 18 #[.pointer (some ⟨p, 0, none⟩), .int .i64 now, .slice a n c] w fun e w' => ∃ v', e = .returned v' ∧ Owns SE StT w' v' (allSt r now z n).2 ∧ (∀ g, v'.ownBlock = some g → w.heap.size ≤ g) ∧ Left w w' p bm pv m (allSt r now z n).1 := by
  obtain ⟨_, hwf, hcell⟩ := hz
  have HW := Lib.hid hwf
  have HC := Lib.hid hcell
  have HCF := Lib.hid hcf
  have hnm : n ≤ maxLen := by unfold maxLen; omega
  have HPL := Lib.hid (And.intro h.lt (And.intro h.mlt h.vlt))
  have HG := Lib.hid h
  have hok0 := h.ok.s0
  clear hwf hcell hcf h
  go_enter Try.func18, Try.ntmps18
  go_wp2_with fail
  go_loopw [7, 14] (fun v i wr => ∃ k : Nat, k ≤ n ∧ i = .int .i64 k ∧ Owns SE StT wr v (allSt r now z k).2 ∧ (∀ g, v.ownBlock = some g → w.heap.size ≤ g) ∧ Left w wr p bm pv m (allSt r now z k).1) (fun _ i _ => n - (intOf i).toNat)
  case atStart => exact ⟨0, Nat.zero_le _, rfl, Owns.nil _ _, (fun g hg => by simp [Value.ownBlock] at hg), HG.out, Turns.refl _ _⟩
  case round =>
    obtain ⟨k, hk, rfl, hown, hvb, hle⟩ := hrel
    have HO := Lib.hid hown
    have HV := Lib.hid hvb
    have HL := Lib.hid hle
    clear hown hvb hle
    by_cases hlt : k < n
    · obtain ⟨b, off, ha, hb, hcells⟩ := HC.out.resolve_left (by omega)
      have hnf := HCF.out b off (by omega) ha
      have hcl := (HL.out.2.cell (a := ⟨b, off + k, none⟩) hb hnf).trans (hcells k hlt)
      subst ha
      have hq := HW.out k hlt
      have hq0 : 0 ≤ z k := by simp [Lit.wf, IntKind.min, IntKind.max, IntKind.bits, IntKind.signed] at hq; omega
      have hq1 : z k ≤ 65535 := by simp [Lit.wf, IntKind.min, IntKind.max, IntKind.bits, IntKind.signed] at hq; omega
      have hse := allSt_sent r now z k
      have HAG := Lib.hid (again p bm pv m (allSt r now z k).1 (z k) now wr HL.out.1 hq0 hq1 t0 t1 (by omega))
      have HST : Hid (allSt r now z (k + 1) = (againR (allSt r now z k).1 (z k) now, if againE (allSt r now z k).1 (z k) now = 0 then (allSt r now z k).2 ++ [againS (allSt r now z k).1 (z k) now] else (allSt r now z k).2)) := Lib.hid rfl
      have hlen : Hid ((allSt r now z k).2.length ≤ k) := Lib.hid (allSt_len r now z k)
      clear hcells hb hnf hse hq
      generalize (allSt r now z k).2 = T at *
      generalize againS (allSt r now z k).1 (z k) now = ss at *
      generalize againE (allSt r now z k).1 (z k) now = ee at *
      generalize againR (allSt r now z k).1 (z k) now = r' at *
      generalize z k = q at *
      go_wp2_with fail
      refine HAG.out.mono ?_
      rintro e w3 ⟨rfl, h3⟩
      have HL3 := Lib.hid (HL.out.trans h3)
      have hO3 : Owns SE StT w3 u7 T := HO.out.turns h3.2 (fun g hg hf => by
        have h1 := HV.out g hg
        obtain ⟨l1, l2, l3⟩ := HPL.out
        rcases hf with rfl | rfl | hf
        · omega
        · omega
        · have := l3 g hf; omega)
      have HO3 := Lib.hid hO3
      clear hO3 h3
      by_cases he : ee = 0
      · subst he
        rw [if_pos rfl] at HST
        have hlen2 := hlen.out
        go_wp2_with (at_builtin; refine wpList_append_one (E := SE) Try.underlying40 infoStr rfl (by decide) (by decide) rfl _ _ rfl u7 T ss rfl (HO3.out.turns (S := fun _ => False) ((Turns.refl _ _).alloc _) (fun _ _ h => h)) w3.heap.size rfl (heap_alloc_new w3 _) (by omega) ?_; intro v4 w4 hown4 hgrow4 hat4)
        have hgr : New w3 w3 := Turns.refl _ _
        have t4 : Turns (fun k => some k = u7.ownBlock) w3 w4 := ((Turns.refl _ _).alloc _).trans ((Turns.of_grown hgrow4).mono (fun k _ hk => .inl hk))
        have hv4 : ∀ g, v4.ownBlock = some g → w.heap.size ≤ g := by
          intro g hg
          rcases hat4 with e | e
          · exact HV.out g (by rw [← e]; exact hg)
          · rw [e] at hg
            injection hg with hg
            have := HL3.out.2.size
            simp at hg
            omega
        have hl4 : Left w w4 p bm pv m r' := by
          obtain ⟨l1, l2, l3⟩ := HPL.out
          refine ⟨HL3.out.1.turns t4 (fun e => ?_) (fun e => ?_) (fun g hg e => ?_), HL3.out.2.trans (t4.mono (fun k _ hk => .inr (HV.out k hk.symm)))⟩
          · have := HV.out p e.symm; omega
          · have := HV.out bm e.symm; omega
          · have := HV.out g e.symm; have := l3 g hg; omega
        have H4 := Lib.hid (And.intro hown4 (And.intro hv4 hl4))
        clear hown4 hgrow4 hat4 t4 hv4 hl4 hgr
        go_roundw
        case rel => exact ⟨k + 1, by omega, by go_num, by rw [HST.out]; exact H4.out.1, H4.out.2.1, by rw [HST.out]; exact H4.out.2.2⟩
        case measure => simp [intOf]; omega
      · rw [if_neg he] at HST
        have heb : (ee == 0) = false := by simpa using he
        clear he
        go_wp2_with fail
        go_roundw
        case rel => exact ⟨k + 1, by omega, by go_num, by rw [HST.out]; exact HO3.out, HV.out, by rw [HST.out]; exact HL3.out⟩
        case measure => simp [intOf]; omega
    · obtain rfl : k = n := by omega
      clear hlt hk
      go_wp2
      go_ret
      exact ⟨_, rfl, HO.out, HV.out, HL.out⟩
end Go.Proofs.Ytfdmgloimibioaa.rng
