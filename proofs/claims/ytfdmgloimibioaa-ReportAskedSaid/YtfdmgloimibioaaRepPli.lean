/-
  report.Asks: add of a Pli; 'awake' of layer 17.
-/
import Derived.Test.YtfdmgloimibioaaRepRead
import Derived.Deep.AppendLies
import Derived.Deep.RegionLaw
namespace Go.Proofs.Ytfdmgloimibioaa.rep
open Go.RowKit mem
set_option linter.unusedVariables false

abbrev PkT : TypeId := 74
abbrev zNack : Value := .agg #[.int .u32 0, .int .u32 0, .slice none 0 0]
abbrev zPli : Value := .agg #[.int .u32 0, .int .u32 0]
abbrev zFir : Value := .agg #[.int .u32 0, .slice none 0 0]
abbrev zRemb : Value := .agg #[.int .u32 0, .int .u64 0, .slice none 0 0]
abbrev zBye : Value := .agg #[.slice none 0 0, .string ⟨#[]⟩]
abbrev pliV (f t : Int) : Value := .iface 100 (.agg #[.int .u32 f, .int .u32 t])
theorem pli_nack (x : Value) (w : World) : (Instr.typeAssert (.iface 100 x) PkT 98 true).run Try.prog w = .ok (.tuple #[zNack, .bool false]) w := by kernel_rfl
theorem pli_pli (x : Value) (w : World) : (Instr.typeAssert (.iface 100 x) PkT 100 true).run Try.prog w = .ok (.tuple #[x, .bool true]) w := by kernel_rfl

/-- one field of the Asks is stored -/
theorem Ask.stored {w W : World} {p : Nat} {v : Value} {s : AS} (h : Ask w p v s) (n : New w W) (i : Nat) (u : Value) (t : AS) (hc : (ascs v s).setIfInBounds i u = ascs v t) (hq : t.q = s.q) : Added w (W.setCell ⟨p, i, none⟩ u) p v t := by
  have ht : Turns (· = p) W (W.setCell ⟨p, i, none⟩ u) := (Turns.refl (· = p) _).setCell (.inl rfl) _
  refine ⟨v, ⟨?_, ?_, h.ne⟩, (n.mono (fun _ _ h => h.elim)).trans (ht.mono (fun k _ hk => .inl (.inl hk))), .inl rfl⟩
  · rw [← hc]; exact (n.blk h.blk (fun h => h)).set i u
  · rw [hq]; exact (h.own.turns n (fun _ _ h => h)).turns ht (fun g hg e => h.ne (by rw [hg, e]))

theorem Added.later {w w1 w2 : World} {p : Nat} {v : Value} {t : AS} (h : Added w w1 p v t) (n : New w1 w2) : Added w w2 p v t := by
  obtain ⟨v', ha, ht, hl⟩ := h
  exact ⟨v', ⟨n.blk ha.blk (fun h => h), ha.own.turns n (fun _ _ h => h), ha.ne⟩, ht.trans (n.mono (fun _ _ h => h.elim)), hl⟩

theorem add_pli (p : Nat) (v : Value) (s : AS) (ssrc f t : Int) (w : World) (h : Ask w p v s) :
    Calls Try.prog 44 #[.pointer (some ⟨p, 0, none⟩), .int .u32 ssrc, pliV f t] w fun e w' => e = .returned (.tuple #[]) ∧ Added w w' p v { s with key := s.key || (t == ssrc) } := by
  have t1 := pli_nack
  have t2 := pli_pli
  have c1 := h.blk.cell 1
  have f1 := h.blk.free 1
  have hpl := h.blk.lt
  have HS := Lib.hid (fun (b : Bool) (hb : (s.key || (t == ssrc)) = b) (o1 o2 : Obj) => (h.stored (Turns.refl _ w) 1 (.bool b) { s with key := s.key || (t == ssrc) } (by rw [hb]; rfl) rfl).later (((Turns.refl _ _).alloc o1).alloc o2))
  clear h
  obtain ⟨q, key, rate, gone⟩ := s
  dsimp only at *
  cases key
  all_goals
    go_enter Try.func44, Try.ntmps44
    go_wp2
    go_end0
    exact ⟨rfl, HS.out _ rfl _ _⟩

theorem ask_key (v : Value) (k : Bool) (r : Int) (g : Bool) (w : World) : (Instr.field AT (.agg #[v, .bool k, .int .u64 r, .bool g]) 1).run Try.prog w = .ok (.bool k) w := by kernel_rfl

theorem read_pli (f t ssrc : Int) (w : World) (b : Nat) (hb : b < w.heap.size) (hc : w.cell? ⟨b, 0, none⟩ = some (pliV f t)) :
    Calls Try.prog 31 #[.int .u32 ssrc, .slice (some ⟨b, 0, none⟩) 1 1] w fun e w' => ∃ v, e = .returned (.agg (ascs v ⟨[], (t == ssrc), 0, false⟩)) ∧ New w w' := by
  refine (read_any ssrc (some ⟨b, 0, none⟩) 1 1 (fun _ => pliV f t) (fun k => if k = 0 then none0 else ⟨[], (t == ssrc), 0, false⟩) w rfl (by decide) (.inr ⟨b, 0, rfl, hb, fun i hi => by
    have : i = 0 := by omega
    subst this; exact hc⟩) ?_).mono ?_
  · intro k hk p v w' _ _ _ ha
    have : k = 0 := by omega
    subst this
    exact add_pli p v none0 ssrc f t w' ha
  · rintro e w' ⟨v, rfl, _, _, hn⟩
    exact ⟨v, rfl, hn⟩

set_option maxHeartbeats 1000000 in
theorem awake (w : World) :
    Calls Try.prog 23 #[] w fun e w' => e = .returned (.bool true) ∧ New w w' := by
  have hfk := ask_key
  have HB0 : Hid (Ck (w.alloc (.cells (ckcs false 0 0) CT)) w.heap.size false 0 0 ∧ New w (w.alloc (.cells (ckcs false 0 0) CT))) := Lib.hid ⟨Blk.new _ _ _, (Turns.refl _ _).alloc _⟩
  go_enter Try.func23, Try.ntmps23
  go_upto_region 2 with fail
  refine (show Code.wp _ _ _ _ (w.alloc (.cells (ckcs false 0 0) CT)) from ?_)
  generalize w.alloc (.cells (ckcs false 0 0) CT) = w1 at *
  obtain ⟨pc, hpc⟩ : ∃ pc, pc = w.heap.size := ⟨_, rfl⟩
  have HPC := Lib.hid hpc
  rw [← hpc] at HB0 ⊢
  clear hpc
  go_wp2_with fail
  refine (at_no pc 0 0 5 w1 HB0.out.1).mono ?_
  rintro e w2 ⟨rfl, rfl⟩
  go_wp2_with fail
  refine (put pc false 0 0 0 0 0 0 0 w1 HB0.out.1).mono ?_
  rintro e w2 ⟨rfl, h2, ht2⟩
  have HB2 : Hid (Ck w2 pc true 0 0 ∧ New w w2) := Lib.hid ⟨h2, HB0.out.2.trans (ht2.mono (fun i _ hi => .inr (by rw [hi, HPC.out]; exact Nat.le_refl _)))⟩
  clear h2 ht2 HB0
  have HAT := Lib.hid (at_yes pc 0 0 45000 w2 HB2.out.1 (by decide) (by decide) (by decide) (by decide) (by decide) (by decide))
  have hv : atP 0 0 45000 = 2147483648 := by rw [atP_is 0 0 45000 (by decide) (by decide) (by decide) (by decide)]; decide
  rw [hv] at HAT
  clear hv
  go_wp2_with fail
  refine HAT.out.mono ?_
  rintro e w3 ⟨rfl, rfl⟩
  have HRD := Lib.hid (read_pli 1 2 2 (w2.alloc (.cells #[pliV 1 2] PkT)) w2.heap.size (by simp) ((Blk.new w2 #[pliV 1 2] PkT).cell 0))
  have HN2 : Hid (New w (w2.alloc (.cells #[pliV 1 2] PkT))) := Lib.hid (HB2.out.2.alloc _)
  clear HB2 HAT
  go_wp2_with fail
  refine HRD.out.mono ?_
  rintro e w4 ⟨v, rfl, hn⟩
  have HN4 := Lib.hid (HN2.out.trans (hn.mono (fun _ _ h => h.elim)))
  clear hn HRD
  go_wp2
  go_ret
  exact ⟨rfl, HN4.out⟩
end Go.Proofs.Ytfdmgloimibioaa.rep
