/-
  report.Read over any packets of which 'add' is known.
-/
import Derived.Test.YtfdmgloimibioaaRepClock
import Derived.Test.YtfdmgloimibioaaRowsG2
import Derived.Test.YtfdmgloimibioaaArgs
import Derived.Deep.RegionHeld3
import Derived.Deep.DeepCutAuto
namespace Go.Proofs.Ytfdmgloimibioaa.rep
open Go.RowKit mem
set_option linter.unusedVariables false

def UE : Enc Int := ⟨1, fun x => [.int .u16 x], fun _ => rfl, by intro a u hu; simp at hu; subst hu; rfl⟩
abbrev AT : TypeId := 87
abbrev U16 : TypeId := 29
/-- what is asked for -/
structure AS where
  q : List Int
  key : Bool
  rate : Int
  gone : Bool
abbrev ascs (v : Value) (s : AS) : Array Value := #[v, .bool s.key, .int .u64 s.rate, .bool s.gone]
structure Ask (w : World) (p : Nat) (v : Value) (s : AS) : Prop where
  blk : Blk w p (ascs v s) AT
  own : Owns UE U16 w v s.q
  ne : v.ownBlock ≠ some p
def none0 : AS := ⟨[], false, 0, false⟩
/-- what a call of add leaves -/
def Added (w w' : World) (p : Nat) (v : Value) (t : AS) : Prop := ∃ v', Ask w' p v' t ∧ Turns (fun i => i = p ∨ v.ownBlock = some i) w w' ∧ (v'.ownBlock = v.ownBlock ∨ ∃ g, v'.ownBlock = some g ∧ w.heap.size ≤ g)

/-- what the loop of Read holds -/
structure Rd (w wr : World) (p : Nat) (v : Value) (s : AS) : Prop where
  ask : Ask wr p v s
  vb : ∀ g, v.ownBlock = some g → w.heap.size ≤ g
  n : New w wr
theorem Rd.added {w w1 w2 : World} {p : Nat} {v : Value} {s t : AS} (h : Rd w w1 p v s) (hp : w.heap.size ≤ p) (h2 : Added w1 w2 p v t) : ∃ v', Rd w w2 p v' t := by
  obtain ⟨v', ha, ht, hl⟩ := h2
  refine ⟨v', ha, ?_, h.n.trans (ht.mono (fun i _ hi => .inr (by rcases hi with rfl | hi; exact hp; exact h.vb i hi)))⟩
  intro g hg
  rcases hl with hl | ⟨g', hl, hg'⟩
  · exact h.vb g (by rw [← hl]; exact hg)
  · rw [hl] at hg
    injection hg with hg
    have := h.n.size
    omega

theorem owns_ne {α : Type} {E : Enc α} {T U : TypeId} {w : World} {v : Value} {l : List α} {p : Nat} {cs : Array Value} (h : Owns E T w v l) (hb : Blk w p cs U) (hTU : T ≠ U) : v.ownBlock ≠ some p := by
  intro e
  rcases h.2 with ⟨rfl, _⟩ | ⟨g, cap, cur, rfl, _, hg, _⟩
  · simp [Value.ownBlock] at e
  · have : g = p := by simpa [Value.ownBlock] using e
    subst this
    unfold Blk at hb
    rw [hg] at hb
    simp at hb
    exact hTU hb.2
set_option maxHeartbeats 1000000 in
theorem read_any (ssrc : Int) (a : Option Addr) (n c : Nat) (val : Nat → Value) (st : Nat → AS) (w : World) (h0 : st 0 = none0) (hn : n ≤ 1048576)
    (hcells : n = 0 ∨ ∃ b off, a = some ⟨b, off, none⟩ ∧ b < w.heap.size ∧ ∀ i, i < n → w.cell? ⟨b, off + i, none⟩ = some (val i))
    (hstep : ∀ k, k < n → ∀ p v w', w.heap.size ≤ p → (∀ g, v.ownBlock = some g → w.heap.size ≤ g) → New w w' → Ask w' p v (st k) →
      Calls Try.prog 44 #[.pointer (some ⟨p, 0, none⟩), .int .u32 ssrc, val k] w' fun e w'' => e = .returned (.tuple #[]) ∧ Added w' w'' p v (st (k + 1))) :
    Calls Try.prog 31 #[.int .u32 ssrc, .slice a n c] w fun e w' => ∃ v, e = .returned (.agg (ascs v (st n))) ∧ Owns UE U16 w' v (st n).q ∧ (∀ g, v.ownBlock = some g → w.heap.size ≤ g) ∧ New w w' := by
  have HC := Lib.hid hcells
  have HS := Lib.hid hstep
  have hnm : n ≤ maxLen := by unfold maxLen; omega
  have HR0 : Hid (Rd w ((w.alloc (.cells (ascs (.slice none 0 0) none0) AT)).alloc (.cells (ascs (.slice none 0 0) none0) AT)) (w.heap.size + 1) (.slice none 0 0) none0 ∧ Blk ((w.alloc (.cells (ascs (.slice none 0 0) none0) AT)).alloc (.cells (ascs (.slice none 0 0) none0) AT)) w.heap.size (ascs (.slice none 0 0) none0) AT) := Lib.hid (by
    have e : (w.alloc (.cells (ascs (.slice none 0 0) none0) AT)).heap.size = w.heap.size + 1 := by simp
    have h := Blk.new (w.alloc (.cells (ascs (.slice none 0 0) none0) AT)) (ascs (.slice none 0 0) none0) AT
    rw [e] at h
    exact ⟨⟨⟨h, Owns.nil _ _, by simp [Value.ownBlock]⟩, (fun g hg => by simp [Value.ownBlock] at hg), ((Turns.refl _ _).alloc _).alloc _⟩, (Blk.new _ _ _).alloc _⟩)
  clear hcells hstep
  have H0 := Lib.hid h0
  clear h0
  go_enter Try.func31, Try.ntmps31
  go_upto_region 2 with fail
  refine (show Code.wp _ _ _ _ ((w.alloc (.cells (ascs (.slice none 0 0) none0) AT)).alloc (.cells (ascs (.slice none 0 0) none0) AT)) from ?_)
  generalize (w.alloc (.cells (ascs (.slice none 0 0) none0) AT)).alloc (.cells (ascs (.slice none 0 0) none0) AT) = w1 at *
  generalize hp : w.heap.size + 1 = p at *
  have HPP : Hid (w.heap.size ≤ p ∧ w.heap.size ≠ p) := Lib.hid (by omega)
  clear hp
  go_wp2_with fail
  go_loopw [10] (fun i wr => ∃ k : Nat, ∃ v : Value, k ≤ n ∧ i = .int .i64 k ∧ Rd w wr p v (st k) ∧ Blk wr w.heap.size (ascs (.slice none 0 0) none0) AT) (fun i _ => n - (intOf i).toNat)
  case atStart => exact ⟨0, _, Nat.zero_le _, rfl, by rw [H0.out]; exact HR0.out.1, HR0.out.2⟩
  case round =>
    obtain ⟨k, v, hk, rfl, hrd, hb0⟩ := hrel
    have HRD := Lib.hid hrd
    have HB0 := Lib.hid hb0
    clear hrd hb0 HR0
    by_cases hlt : k < n
    · obtain ⟨b, off, rfl, hb, hcl⟩ := HC.out.resolve_left (by omega)
      have hc := (HRD.out.n.cell (a := ⟨b, off + k, none⟩) hb (fun h => h)).trans (hcl k hlt)
      have HAD := Lib.hid (HS.out k hlt p v wr HPP.out.1 HRD.out.vb HRD.out.n HRD.out.ask)
      clear hb hcl
      generalize val k = vk at *
      go_wp2_with fail
      refine HAD.out.mono ?_
      rintro e w2 ⟨rfl, h2⟩
      obtain ⟨v', h3⟩ := HRD.out.added HPP.out.1 h2
      obtain ⟨_, _, ht, _⟩ := h2
      have hb2 := ht.blk HB0.out (fun h => by rcases h with h | h; exact HPP.out.2 h; exact owns_ne HRD.out.ask.own HB0.out (by decide) h)
      have H3 := Lib.hid h3
      have HB2 := Lib.hid hb2
      clear h3 ht hb2 HAD hc
      go_wp2_with fail
      go_roundw
      case rel => exact ⟨k + 1, v', by omega, by go_num, H3.out, HB2.out⟩
      case measure => simp [intOf]; omega
    · obtain rfl : k = n := by omega
      have hfm := HRD.out.ask.own.form
      obtain ⟨ao, cc, hv, _⟩ := hfm
      subst hv
      have ha := HRD.out.ask.blk
      obtain ⟨p0, p1, p2, p3⟩ : _ ∧ _ ∧ _ ∧ _ := ⟨ha.cell 0, ha.cell 1, ha.cell 2, ha.cell 3⟩
      have hb := HB0.out
      obtain ⟨q0, q1, q2, q3⟩ : _ ∧ _ ∧ _ ∧ _ := ⟨hb.cell 0, hb.cell 1, hb.cell 2, hb.cell 3⟩
      obtain ⟨f0, f1, f2, f3⟩ : _ ∧ _ ∧ _ ∧ _ := ⟨hb.free 0, hb.free 1, hb.free 2, hb.free 3⟩
      have ht : Turns (· = w.heap.size) wr (puts wr w.heap.size 0 [.slice ao (st k).q.length cc, .bool (st k).key, .int .u64 (st k).rate, .bool (st k).gone]) := puts_turns (S := (· = w.heap.size)) (.inl rfl) _ 0 _ (Turns.refl _ _)
      have hbl : Blk (puts wr w.heap.size 0 [.slice ao (st k).q.length cc, .bool (st k).key, .int .u64 (st k).rate, .bool (st k).gone]) w.heap.size (ascs (.slice ao (st k).q.length cc) (st k)) AT := puts_blk [.slice none 0 0, .bool none0.key, .int .u64 none0.rate, .bool none0.gone] _ hb rfl
      have HFIN : Hid (Owns UE U16 (puts wr w.heap.size 0 [.slice ao (st k).q.length cc, .bool (st k).key, .int .u64 (st k).rate, .bool (st k).gone]) (.slice ao (st k).q.length cc) (st k).q ∧ (∀ g, (Value.slice ao (st k).q.length cc).ownBlock = some g → w.heap.size ≤ g) ∧ New w (puts wr w.heap.size 0 [.slice ao (st k).q.length cc, .bool (st k).key, .int .u64 (st k).rate, .bool (st k).gone]) ∧ Blk (puts wr w.heap.size 0 [.slice ao (st k).q.length cc, .bool (st k).key, .int .u64 (st k).rate, .bool (st k).gone]) w.heap.size (ascs (.slice ao (st k).q.length cc) (st k)) AT) := Lib.hid
        ⟨HRD.out.ask.own.turns ht (fun g hg e => owns_ne HRD.out.ask.own HB0.out (by decide) (by rw [← e]; exact hg)), HRD.out.vb, HRD.out.n.trans (ht.mono (fun i _ hi => .inr (by rw [hi]; exact Nat.le_refl _))), hbl⟩
      clear ht hbl ha hb HRD HB0 hlt hk
      go_wp2_with fail
      refine (show bodyPost _ _ _ _ _ (puts wr w.heap.size 0 [.slice ao (st k).q.length cc, .bool (st k).key, .int .u64 (st k).rate, .bool (st k).gone]) from ?_)
      generalize puts wr w.heap.size 0 [.slice ao (st k).q.length cc, .bool (st k).key, .int .u64 (st k).rate, .bool (st k).gone] = w9 at *
      have hb9 := HFIN.out.2.2.2
      obtain ⟨e0, e1, e2, e3⟩ : _ ∧ _ ∧ _ ∧ _ := ⟨hb9.cell 0, hb9.cell 1, hb9.cell 2, hb9.cell 3⟩
      clear hb9 q0 q1 q2 q3 f0 f1 f2 f3 p0 p1 p2 p3
      simp at e0 e1 e2 e3
      refine bodyPost_ret (v := .agg (ascs (.slice ao (st k).q.length cc) (st k))) (by simp [results, Try.results31, go_sem, e0, e1, e2, e3]) rfl ⟨_, rfl, HFIN.out.1, HFIN.out.2.1, HFIN.out.2.2.1⟩
end Go.Proofs.Ytfdmgloimibioaa.rep
