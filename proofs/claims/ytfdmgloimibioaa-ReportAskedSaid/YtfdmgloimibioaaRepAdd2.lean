/-
  report.Asks: add of a Remb, a Bye.
-/
import Derived.Test.YtfdmgloimibioaaRepAdd
namespace Go.Proofs.Ytfdmgloimibioaa.rep
open Go.RowKit mem
set_option linter.unusedVariables false

theorem Added.before {w w1 w2 : World} {p : Nat} {v : Value} {t : AS} (n : New w w1) (h : Added w1 w2 p v t) : Added w w2 p v t := by
  obtain ⟨v', ha, ht, hl⟩ := h
  refine ⟨v', ha, (n.mono (fun _ _ h => h.elim)).trans (ht.mono (fun k _ hk => .inl hk)), ?_⟩
  rcases hl with e | ⟨g, e, hg⟩
  · exact .inl e
  · exact .inr ⟨g, e, Nat.le_trans n.size hg⟩
theorem Ask.new {w w' : World} {p : Nat} {v : Value} {s : AS} (h : Ask w p v s) (n : New w w') : Ask w' p v s := ⟨n.blk h.blk (fun h => h), h.own.turns n (fun _ _ h => h), h.ne⟩
theorem Ask.same {w w' : World} {p : Nat} {v : Value} {s : AS} (h : Ask w p v s) (n : New w w') : Added w w' p v s := ⟨v, h.new n, n.mono (fun _ _ h => h.elim), .inl rfl⟩

def limF (cur r : Int) : Int := if 0 < r then (if cur = 0 then r else if r < cur then r else cur) else cur
theorem limit (p : Nat) (v : Value) (s : AS) (r : Int) (w : World) (h : Ask w p v s) :
    Calls Try.prog 51 #[.pointer (some ⟨p, 0, none⟩), .int .u64 r] w fun e w' => e = .returned (.tuple #[]) ∧ Added w w' p v { s with rate := limF s.rate r } := by
  have c2 := h.blk.cell 2
  have f2 := h.blk.free 2
  have hpl := h.blk.lt
  have HS := Lib.hid (h.stored (Turns.refl _ w) 2 (.int .u64 r) { s with rate := r } rfl rfl)
  have HN := Lib.hid (h.same (Turns.refl _ w))
  clear h
  obtain ⟨q, key, rate, gone⟩ := s
  unfold limF
  dsimp only at *
  by_cases h1 : 0 < r
  · rw [if_pos h1]
    by_cases h2 : rate = 0
    · rw [if_pos h2]
      subst h2
      go_enter Try.func51, Try.ntmps51
      go_wp2
      go_end0
      exact ⟨rfl, HS.out⟩
    · rw [if_neg h2]
      by_cases h3 : r < rate
      · rw [if_pos h3]
        go_enter Try.func51, Try.ntmps51
        go_wp2
        go_end0
        exact ⟨rfl, HS.out⟩
      · rw [if_neg h3]
        go_enter Try.func51, Try.ntmps51
        go_wp2
        go_end0
        exact ⟨rfl, HN.out⟩
  · rw [if_neg h1]
    go_enter Try.func51, Try.ntmps51
    go_wp2
    go_end0
    exact ⟨rfl, HN.out⟩

theorem add_remb (p : Nat) (v : Value) (s : AS) (ssrc f r : Int) (a : Option Addr) (n c : Nat) (z : Nat → Int) (w : World) (h : Ask w p v s) (hr : RdU w a n z) (hn : n ≤ 1000) :
    Calls Try.prog 44 #[.pointer (some ⟨p, 0, none⟩), .int .u32 ssrc, rembV f r a n c] w fun e w' => e = .returned (.tuple #[]) ∧ Added w w' p v { s with rate := if hasB z n ssrc = true then limF s.rate r else s.rate } := by
  have t1 := remb_nack
  have t2 := remb_pli
  have t3 := remb_fir
  have t4 := remb_remb
  have hpl := h.blk.lt
  have n2 : New w ((w.alloc (.cells #[.int .u32 ssrc] 54)).alloc (.cells #[.int .u32 f, .int .u64 r, .slice a n c] 107)) := ((Turns.refl _ _).alloc _).alloc _
  have HN2 := Lib.hid n2
  have HCN := Lib.hid (contains a n c z ssrc ((w.alloc (.cells #[.int .u32 ssrc] 54)).alloc (.cells #[.int .u32 f, .int .u64 r, .slice a n c] 107)) (hr.new n2) hn)
  have HL := Lib.hid (limit p v s r ((w.alloc (.cells #[.int .u32 ssrc] 54)).alloc (.cells #[.int .u32 f, .int .u64 r, .slice a n c] 107)) (h.new n2))
  have HE := Lib.hid (h.same n2)
  clear h n2 hr
  generalize hasB z n ssrc = hb at *
  cases hb
  · go_enter Try.func44, Try.ntmps44
    go_wp2_with fail
    refine HCN.out.mono ?_
    rintro e w2 ⟨rfl, rfl⟩
    go_wp2
    go_end0
    exact ⟨rfl, HE.out⟩
  · go_enter Try.func44, Try.ntmps44
    go_wp2_with fail
    refine HCN.out.mono ?_
    rintro e w2 ⟨rfl, rfl⟩
    go_wp2_with fail
    refine HL.out.mono ?_
    rintro e w3 ⟨rfl, h3⟩
    have HF := Lib.hid (h3.before HN2.out)
    clear h3
    go_wp2
    go_end0
    exact ⟨rfl, HF.out⟩

theorem add_bye (p : Nat) (v : Value) (s : AS) (ssrc : Int) (a : Option Addr) (n c : Nat) (st : ByteArray) (z : Nat → Int) (w : World) (h : Ask w p v s) (hr : RdU w a n z) (hn : n ≤ 1000) :
    Calls Try.prog 44 #[.pointer (some ⟨p, 0, none⟩), .int .u32 ssrc, byeV a n c st] w fun e w' => e = .returned (.tuple #[]) ∧ Added w w' p v { s with gone := s.gone || hasB z n ssrc } := by
  have t1 := bye_nack
  have t2 := bye_pli
  have t3 := bye_fir
  have t4 := bye_remb
  have t5 := bye_bye
  have c3 := h.blk.cell 3
  have f3 := h.blk.free 3
  have hpl := h.blk.lt
  have n2 : New w ((w.alloc (.cells #[.int .u32 ssrc] 54)).alloc (.cells #[.slice a n c, .string st] 109)) := ((Turns.refl _ _).alloc _).alloc _
  have hb2 := (h.new n2).blk
  have d3 := hb2.cell 3
  have g3 := hb2.free 3
  have HCN := Lib.hid (contains a n c z ssrc ((w.alloc (.cells #[.int .u32 ssrc] 54)).alloc (.cells #[.slice a n c, .string st] 109)) (hr.new n2) hn)
  have HS := Lib.hid (fun (b : Bool) (hb : (s.gone || hasB z n ssrc) = b) (o1 o2 : Obj) => (h.stored (Turns.refl _ w) 3 (.bool b) { s with gone := s.gone || hasB z n ssrc } (by rw [hb]; rfl) rfl).later (((Turns.refl _ _).alloc o1).alloc o2))
  have HSS := Lib.hid (fun (b : Bool) (hb : (s.gone || hasB z n ssrc) = b) => ((h.new n2).stored (Turns.refl _ _) 3 (.bool b) { s with gone := s.gone || hasB z n ssrc } (by rw [hb]; rfl) rfl).before n2)
  clear h n2 hr hb2
  obtain ⟨q, key, rate, gone⟩ := s
  dsimp only at *
  generalize hasB z n ssrc = hb at *
  cases gone
  · go_enter Try.func44, Try.ntmps44
    go_wp2_with fail
    refine HCN.out.mono ?_
    rintro e w2 ⟨rfl, rfl⟩
    go_wp2
    go_end0
    first | exact ⟨rfl, HSS.out _ rfl⟩ | exact ⟨rfl, HS.out _ rfl _ _⟩
  · go_enter Try.func44, Try.ntmps44
    go_wp2
    go_end0
    first | exact ⟨rfl, HS.out _ rfl _ _⟩ | exact ⟨rfl, HSS.out _ rfl⟩
end Go.Proofs.Ytfdmgloimibioaa.rep
