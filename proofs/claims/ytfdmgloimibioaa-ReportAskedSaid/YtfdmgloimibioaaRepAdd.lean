/-
  report.Asks: add of each kind of packet that asks for something.
-/
import Derived.Test.YtfdmgloimibioaaRepHas
namespace Go.Proofs.Ytfdmgloimibioaa.rep
open Go.RowKit mem
set_option linter.unusedVariables false

theorem RdU.new {w w' : World} {a : Option Addr} {n : Nat} {z : Nat → Int} (h : RdU w a n z) (k : New w w') : RdU w' a n z := by
  rcases h with h | ⟨b, off, rfl, hb, hc⟩
  · exact .inl h
  · exact .inr ⟨b, off, rfl, Nat.lt_of_lt_of_le hb k.size, fun i hi => (k.cell (a := ⟨b, off + i, none⟩) hb (fun h => h)).trans (hc i hi)⟩
theorem RdO.new {w w' : World} {a : Option Addr} {n : Nat} {z y : Nat → Int} (h : RdO w a n z y) (k : New w w') : RdO w' a n z y := by
  rcases h with h | ⟨b, off, rfl, hb, hc⟩
  · exact .inl h
  · exact .inr ⟨b, off, rfl, Nat.lt_of_lt_of_le hb k.size, fun i hi => ⟨(k.cell (a := ⟨b, off + i * 2, none⟩) hb (fun h => h)).trans (hc i hi).1, (k.cell (a := ⟨b, off + i * 2 + 1, none⟩) hb (fun h => h)).trans (hc i hi).2⟩⟩
theorem RdP.new {w w' : World} {a : Option Addr} {l : List PP} (h : RdP w a l) (k : New w w') : RdP w' a l := by
  rcases h with h | ⟨b, off, rfl, hb, hc⟩
  · exact .inl h
  · exact .inr ⟨b, off, rfl, Nat.lt_of_lt_of_le hb k.size, fun i x hx => ⟨(k.cell (a := ⟨b, off + i * 2, none⟩) hb (fun h => h)).trans (hc i x hx).1, (k.cell (a := ⟨b, off + i * 2 + 1, none⟩) hb (fun h => h)).trans (hc i x hx).2⟩⟩

section
variable {D : TypeId}
abbrev firV (f : Int) (a : Option Addr) (n c : Nat) : Value := .iface 105 (.agg #[.int .u32 f, .slice a n c])
abbrev rembV (f r : Int) (a : Option Addr) (n c : Nat) : Value := .iface 107 (.agg #[.int .u32 f, .int .u64 r, .slice a n c])
abbrev byeV (a : Option Addr) (n c : Nat) (s : ByteArray) : Value := .iface 109 (.agg #[.slice a n c, .string s])
abbrev nackV (f t : Int) (a : Option Addr) (n c : Nat) : Value := .iface 98 (.agg #[.int .u32 f, .int .u32 t, .slice a n c])
theorem fir_nack (x : Value) (w : World) : (Instr.typeAssert (.iface 105 x) PkT 98 true).run Try.prog w = .ok (.tuple #[zNack, .bool false]) w := by kernel_rfl
theorem fir_pli (x : Value) (w : World) : (Instr.typeAssert (.iface 105 x) PkT 100 true).run Try.prog w = .ok (.tuple #[zPli, .bool false]) w := by kernel_rfl
theorem fir_fir (x : Value) (w : World) : (Instr.typeAssert (.iface 105 x) PkT 105 true).run Try.prog w = .ok (.tuple #[x, .bool true]) w := by kernel_rfl
theorem remb_nack (x : Value) (w : World) : (Instr.typeAssert (.iface 107 x) PkT 98 true).run Try.prog w = .ok (.tuple #[zNack, .bool false]) w := by kernel_rfl
theorem remb_pli (x : Value) (w : World) : (Instr.typeAssert (.iface 107 x) PkT 100 true).run Try.prog w = .ok (.tuple #[zPli, .bool false]) w := by kernel_rfl
theorem remb_fir (x : Value) (w : World) : (Instr.typeAssert (.iface 107 x) PkT 105 true).run Try.prog w = .ok (.tuple #[zFir, .bool false]) w := by kernel_rfl
theorem remb_remb (x : Value) (w : World) : (Instr.typeAssert (.iface 107 x) PkT 107 true).run Try.prog w = .ok (.tuple #[x, .bool true]) w := by kernel_rfl
theorem bye_nack (x : Value) (w : World) : (Instr.typeAssert (.iface 109 x) PkT 98 true).run Try.prog w = .ok (.tuple #[zNack, .bool false]) w := by kernel_rfl
theorem bye_pli (x : Value) (w : World) : (Instr.typeAssert (.iface 109 x) PkT 100 true).run Try.prog w = .ok (.tuple #[zPli, .bool false]) w := by kernel_rfl
theorem bye_fir (x : Value) (w : World) : (Instr.typeAssert (.iface 109 x) PkT 105 true).run Try.prog w = .ok (.tuple #[zFir, .bool false]) w := by kernel_rfl
theorem bye_remb (x : Value) (w : World) : (Instr.typeAssert (.iface 109 x) PkT 107 true).run Try.prog w = .ok (.tuple #[zRemb, .bool false]) w := by kernel_rfl
theorem bye_bye (x : Value) (w : World) : (Instr.typeAssert (.iface 109 x) PkT 109 true).run Try.prog w = .ok (.tuple #[x, .bool true]) w := by kernel_rfl
theorem nack_nack (x : Value) (w : World) : (Instr.typeAssert (.iface 98 x) PkT 98 true).run Try.prog w = .ok (.tuple #[x, .bool true]) w := by kernel_rfl
end

theorem add_fir (p : Nat) (v : Value) (s : AS) (ssrc f : Int) (a : Option Addr) (n c : Nat) (z y : Nat → Int) (w : World) (h : Ask w p v s) (hr : RdO w a n z y) (hn : n ≤ 1000) :
    Calls Try.prog 44 #[.pointer (some ⟨p, 0, none⟩), .int .u32 ssrc, firV f a n c] w fun e w' => e = .returned (.tuple #[]) ∧ Added w w' p v { s with key := s.key || hasB z n ssrc } := by
  have t1 := fir_nack
  have t2 := fir_pli
  have t3 := fir_fir
  have c1 := h.blk.cell 1
  have f1 := h.blk.free 1
  have hpl := h.blk.lt
  have HS := Lib.hid (fun (W : World) (nn : New w W) (b : Bool) (hb : (s.key || hasB z n ssrc) = b) => h.stored nn 1 (.bool b) { s with key := s.key || hasB z n ssrc } (by rw [hb]; rfl) rfl)
  have HN2 : Hid (New w ((w.alloc (.cells #[.int .u32 ssrc] 54)).alloc (.cells #[.int .u32 f, .slice a n c] 105))) := Lib.hid (((Turns.refl _ _).alloc _).alloc _)
  have hb := (Blk.new w #[.int .u32 ssrc] 54).alloc (.cells #[.int .u32 f, .slice a n c] 105)
  have HCF := Lib.hid (containsF a n c z y ssrc w.heap.size ((w.alloc (.cells #[.int .u32 ssrc] 54)).alloc (.cells #[.int .u32 f, .slice a n c] 105)) (hr.new HN2.out) hn hb.lt (hb.cell 0))
  have HA := Lib.hid h.blk
  clear h hb
  obtain ⟨q, key, rate, gone⟩ := s
  dsimp only at *
  generalize hasB z n ssrc = hb at *
  cases key
  · go_enter Try.func44, Try.ntmps44
    go_wp2_with fail
    refine HCF.out.mono ?_
    rintro e w2 ⟨rfl, hn2⟩
    have hnn := HN2.out.trans (hn2.mono (fun _ _ h => h.elim))
    have HSS := Lib.hid (HS.out w2 hnn)
    have hb2 := hnn.blk HA.out (fun h => h)
    have d1 := hb2.cell 1
    have g1 := hb2.free 1
    clear hn2 hnn hb2 HS HCF
    go_wp2
    go_end0
    exact ⟨rfl, HSS.out _ rfl⟩
  · have HS3 := Lib.hid (fun o1 o2 => (HS.out w (Turns.refl _ _) true rfl).later (((Turns.refl _ _).alloc o1).alloc o2))
    go_enter Try.func44, Try.ntmps44
    go_wp2
    go_end0
    exact ⟨rfl, HS3.out _ _⟩
end Go.Proofs.Ytfdmgloimibioaa.rep
