/-
  report.Asks: add of a Nack.
-/
import Derived.Test.YtfdmgloimibioaaRepAdd2
namespace Go.Proofs.Ytfdmgloimibioaa.rep
open Go.RowKit mem
set_option linter.unusedVariables false

theorem Ask.grown {w W w8 : World} {p : Nat} {v v' : Value} {s : AS} {K : List Int} (h : Ask W p v s) (N : New w W) (hown : Owns UE U16 w8 v' (s.q ++ K)) (hgrow : W.grownBy w8 v.ownBlock) (hat : v'.ownBlock = v.ownBlock ∨ v'.ownBlock = some W.heap.size) :
    Added w (w8.setCell ⟨p, 0, none⟩ v') p v { s with q := s.q ++ K } ∧ Blk w8 p (ascs v s) AT := by
  have hg := Turns.of_grown hgrow
  have hb8 := hg.blk h.blk (fun e => h.ne e.symm)
  have hne : v'.ownBlock ≠ some p := by
    rcases hat with e | e
    · rw [e]; exact h.ne
    · rw [e]; intro e2; injection e2 with e2; have := h.blk.lt; omega
  have ht : Turns (· = p) w8 (w8.setCell ⟨p, 0, none⟩ v') := (Turns.refl (· = p) _).setCell (.inl rfl) _
  refine ⟨⟨v', ⟨hb8.set 0 v', hown.turns ht (fun g hg e => hne (by rw [hg, e])), hne⟩, ?_, ?_⟩, hb8⟩
  · refine (N.mono (fun _ _ h => h.elim)).trans ((hg.mono (fun k _ hk => .inl (.inr hk.symm))).trans (ht.mono (fun k _ hk => .inl (.inl (.inl hk)))))
  · rcases hat with e | e
    · exact .inl e
    · exact .inr ⟨_, e, N.size⟩

set_option maxHeartbeats 1000000 in
theorem add_nack (p : Nat) (v : Value) (s : AS) (ssrc f t : Int) (ao : Option Addr) (c : Nat) (l : List PP) (w : World) (h : Ask w p v s) (hr : RdP w ao l) (hl : l.length ≤ 1000) (hok : ∀ x ∈ l, x.ok) (hq : s.q.length ≤ 1000) :
    Calls Try.prog 44 #[.pointer (some ⟨p, 0, none⟩), .int .u32 ssrc, nackV f t ao l.length c] w fun e w' => e = .returned (.tuple #[]) ∧ Added w w' p v { s with q := if t = ssrc then s.q ++ sqAll l else s.q } := by
  have t1 := nack_nack
  have hpl := h.blk.lt
  have n2 : New w ((w.alloc (.cells #[.int .u32 ssrc] 54)).alloc (.cells #[.int .u32 f, .int .u32 t, .slice ao l.length c] 98)) := ((Turns.refl _ _).alloc _).alloc _
  have hlen := sqAll_len l
  have HLEN : Hid (s.q.length + (sqAll l).length ≤ 1048576) := Lib.hid (by omega)
  have HE := Lib.hid (h.same n2)
  by_cases ht : t = ssrc
  · subst ht
    rw [if_pos rfl]
    obtain ⟨a0, cc, hv, _⟩ := h.own.form
    subst hv
    have HSQ := Lib.hid (fun W (N : New w W) => seqs f t ao c l W (hr.new N) hl hok)
    have HAW := Lib.hid (fun W (N : New w W) => h.new N)
    have hb2 := (h.new n2).blk
    have c0 := hb2.cell 0
    have f0 := hb2.free 0
    have HN := Lib.hid n2
    generalize sqAll l = K at *
    clear h hr hok n2 hb2 hlen hl hq HE
    go_enter Try.func44, Try.ntmps44
    go_upto_region 5 with fail
    refine (show Code.wp _ _ _ _ ((w.alloc (.cells #[.int .u32 t] 54)).alloc (.cells #[.int .u32 f, .int .u32 t, .slice ao l.length c] 98)) from ?_)
    go_region_law
      (first
        | (refine step_append_owns (E := UE) Try.underlying30 infoU rfl (by decide) (by decide) (by rfl) _ _ (by rfl) (.slice a0 s.q.length cc) vv s.q K (by rfl) (by rfl) (HAW.out _ (by first | exact N1 | exact N1.drew | exact N1.drew.drew)).own (by first | exact ho1 | exact ho1.turns ((Turns.refl (fun _ => False) _).drew) (fun _ _ h => h) | exact ho1.turns ((Turns.refl (fun _ => False) _).drew.drew) (fun _ _ h => h)) HLEN.out ?_; intro v' w8 hown hgrow hat; obtain ⟨a9, c9, hv9, _⟩ := hown.form; rw [List.length_append] at hv9; subst hv9; have HGR := Ask.grown (HAW.out _ (by first | exact N1 | exact N1.drew | exact N1.drew.drew)) (by first | exact N1 | exact N1.drew | exact N1.drew.drew) hown hgrow hat; have c8 := HGR.2.cell 0; have f8 := HGR.2.free 0; have h8l := HGR.2.lt; have HF := Lib.hid HGR.1; clear HGR hown hgrow hat)
        | (go_simp; go_at_call 35; (refine (HSQ.out _ (by first | exact HN.out | exact HN.out.drew | exact HN.out.drew.drew)).mono ?_); rintro en w1 ⟨vv, rfl, hgr⟩; have N1 : New w w1 := (by first | exact HN.out.trans (hgr.n.mono (fun _ _ h => h.elim)) | exact HN.out.drew.trans (hgr.n.mono (fun _ _ h => h.elim)) | exact HN.out.drew.drew.trans (hgr.n.mono (fun _ _ h => h.elim))); have ho1 := hgr.own; have c1 := (HAW.out w1 N1).blk.cell 0; clear hgr))
    all_goals
      go_end0
      exact ⟨rfl, HF.out⟩
  · rw [if_neg ht]
    have htq : (t == ssrc) = false := by simpa using ht
    clear h hr hok n2 hlen hl hq
    go_enter Try.func44, Try.ntmps44
    go_wp2
    go_end0
    exact ⟨rfl, HE.out⟩
end Go.Proofs.Ytfdmgloimibioaa.rep
