/-
  RtpFields: each part has bytes of its own.
-/
import Derived.Test.YtkpmdaknojlkjaaRpText
import Derived.Test.YtkpmdaknojlkjaaRpFew
import Derived.Test.YtkpmdaknojlkjaaRpIsAwake
import Derived.Test.YtkpmdaknojlkjaaPackArg
namespace Go.Proofs.Ytkpmdaknojlkjaa.rp
open Go.RowKit mem rd wr oref sq
set_option linter.unusedVariables false

/-- a packet that came in -/
def inP (x0 : Bool) (x1 x2 x3 x4 : Int) (n : Nat) (z : Nat → Int) (x6 : Bool) (x7 : Int) (x8 x9 : ByteArray) (x10 : Int) : P := ⟨x0, x1, x2, x3, x4, (List.range n).map z, x6, x7, x8, x9, x10⟩
theorem in_G {w : World} {x0 : Bool} {x1 x2 x3 x4 : Int} {a : Option Addr} {n c : Nat} {z : Nat → Int} {x6 : Bool} {x7 : Int} {x8 x9 : ByteArray} {x10 : Int} (h : args.packOk w x0 x1 x2 x3 x4 a n c z x6 x7 x8 x9 x10) :
    G (inP x0 x1 x2 x3 x4 n z x6 x7 x8 x9 x10) := by
  obtain ⟨_, h1, h2, h3, h4, ⟨⟨h5, h5z, _⟩, _, _⟩, _, h7, h8, h9, h10⟩ := h
  unfold maxLen at *
  refine ⟨bounds_u8 h1, bounds_u16 h2, bounds_u32 h3, bounds_u32 h4, ?_, ?_, bounds_u16 h7, bounds_i64 h10, h8, h9⟩
  · intro x hx
    obtain ⟨i, hi, rfl⟩ := List.mem_map.1 hx
    exact bounds_u32 (h5z i (List.mem_range.1 hi))
  · show ((List.range n).map z).length ≤ _
    simp; exact h5
theorem in_len (x0 : Bool) (x1 x2 x3 x4 : Int) (n : Nat) (z : Nat → Int) (x6 : Bool) (x7 : Int) (x8 x9 : ByteArray) (x10 : Int) : n = (inP x0 x1 x2 x3 x4 n z x6 x7 x8 x9 x10).cs.length := by
  show n = ((List.range n).map z).length; simp
theorem in_row {w : World} {x0 : Bool} {x1 x2 x3 x4 : Int} {a : Option Addr} {n c : Nat} {z : Nat → Int} {x6 : Bool} {x7 : Int} {x8 x9 : ByteArray} {x10 : Int} (h : args.packOk w x0 x1 x2 x3 x4 a n c z x6 x7 x8 x9 x10) :
    Row w a (few (inP x0 x1 x2 x3 x4 n z x6 x7 x8 x9 x10)).cs ∧ (n = 0 ∨ ∃ B off, a = some ⟨B, off, none⟩) ∧ n ≤ c ∧ c ≤ 9223372036854775807 := by
  obtain ⟨_, h1, h2, h3, h4, ⟨⟨h5, h5z, h5c⟩, hc1, hc2⟩, _⟩ := h
  unfold maxLen at hc2
  refine ⟨?_, ?_, hc1, hc2⟩
  · have hl : (few (inP x0 x1 x2 x3 x4 n z x6 x7 x8 x9 x10)).cs.length = min 17 n := by unfold few inP; simp only [List.length_take, List.length_map, List.length_range]
    rcases h5c with h | ⟨b, off, rfl, hb, hc⟩
    · left; rw [hl]; omega
    · right
      refine ⟨b, off, rfl, hb, fun i hi => ?_⟩
      rw [hl] at hi
      rw [hc i (by omega)]
      have e : (few (inP x0 x1 x2 x3 x4 n z x6 x7 x8 x9 x10)).cs.getD i 0 = z i := by
        unfold few inP
        simp only [List.getD]
        rw [List.getElem?_take_of_lt (by omega), List.getElem?_map, List.getElem?_range (by omega)]
        rfl
      rw [e]
  · rcases h5c with h | ⟨b, off, rfl, _⟩
    · exact .inl h
    · exact .inr ⟨b, off, rfl⟩

/-- other parts of the head -/
def wth (p : P) (s t u : Int) (m : Bool) : P := { p with seq := s, time := t, ssrc := u, mrk := m }
theorem wth_V {p : P} (h : V p) (s t u : Int) (m : Bool) (hs : 0 ≤ s ∧ s ≤ 65535) (ht : 0 ≤ t ∧ t ≤ 4294967295) (hu : 0 ≤ u ∧ u ≤ 4294967295) : V (wth p s t u m) :=
  ⟨h.typ, hs, ht, hu, h.cs, h.csn, h.prof, h.pad, h.data, h.none, h.len⟩
theorem drop12 (p : P) : (tx p).drop 12 = p.cs.flatMap (be 4) ++ (txE p ++ (p.pay.data.toList ++ txP p)) := by
  rw [tx_split]
  have e : be 1 (h1 p) ++ (be 1 (h2 p) ++ (be 2 p.seq ++ (be 4 p.time ++ (be 4 p.ssrc ++ (p.cs.flatMap (be 4) ++ (txE p ++ (p.pay.data.toList ++ txP p))))))) = (be 1 (h1 p) ++ be 1 (h2 p) ++ be 2 p.seq ++ be 4 p.time ++ be 4 p.ssrc) ++ (p.cs.flatMap (be 4) ++ (txE p ++ (p.pay.data.toList ++ txP p))) := by
    simp only [List.append_assoc]
  have l : (be 1 (h1 p) ++ be 1 (h2 p) ++ be 2 p.seq ++ be 4 p.time ++ be 4 p.ssrc).length = 12 := by simp only [List.length_append, be_length]
  rw [e, ← l]
  exact List.drop_left
theorem wth_drop (p : P) (s t u : Int) (m : Bool) : (tx (wth p s t u m)).drop 12 = (tx p).drop 12 := by rw [drop12, drop12]; rfl
theorem wth_len {p : P} (h : V p) (s t u : Int) (m : Bool) (hs : 0 ≤ s ∧ s ≤ 65535) (ht : 0 ≤ t ∧ t ≤ 4294967295) (hu : 0 ≤ u ∧ u ≤ 4294967295) : (tx (wth p s t u m)).length = (tx p).length := by
  have a := tx_length _ (wth_V h s t u m hs ht hu)
  have b := tx_length _ h
  have c : lenI (wth p s t u m) = lenI p := rfl
  omega
theorem wth_same {p : P} (h : V p) (s t u : Int) (m : Bool) (hs : 0 ≤ s ∧ s ≤ 65535) (ht : 0 ≤ t ∧ t ≤ 4294967295) (hu : 0 ≤ u ∧ u ≤ 4294967295) :
    tx p = tx (wth p s t u m) ↔ (p.seq = s ∧ p.time = t ∧ p.ssrc = u ∧ p.mrk = m) := by
  constructor
  · intro e
    have a := (parse_text _ h).2
    have b := (parse_text _ (wth_V h s t u m hs ht hu)).2
    rw [← e, a] at b
    have := congrArg (fun q : P => (q.seq, q.time, q.ssrc, q.mrk)) b
    simp only [wth, Prod.mk.injEq] at this
    exact this
  · rintro ⟨rfl, rfl, rfl, rfl⟩
    rfl
end Go.Proofs.Ytkpmdaknojlkjaa.rp
