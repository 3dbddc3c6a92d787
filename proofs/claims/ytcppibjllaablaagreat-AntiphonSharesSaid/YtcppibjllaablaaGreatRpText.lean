/-
  rtp: Text, up to the extension.
-/
import Derived.Test.YtcppibjllaablaaGreatRpTextA
import Derived.Test.YtcppibjllaablaaGreatShelf
namespace Go.Proofs.YtcppibjllaablaaGreat.rp
open Go.RowKit mem rd wr oref sq
set_option linter.unusedVariables false

abbrev Args := List (Nat × Array Value × TypeId)
theorem Now.new {W0 W W' : World} {p : Nat} {ys : List UInt8} {args : Args} (h : Now W0 W p ys args) (k : New W W') : Now W0 W' p ys args := by
  obtain ⟨q, hb, ht, hq, ha⟩ := h
  exact ⟨q, hb.turns k (fun h => h) (fun _ _ h => h), ht.trans (k.mono (fun _ _ h => h.elim)), hq, fun a h => ⟨k.blk (ha a h).1 (fun h => h), (ha a h).2⟩⟩
theorem Now.blk {W0 W : World} {p : Nat} {ys : List UInt8} {args : Args} (h : Now W0 W p ys args) {b : Nat} {cs : Array Value} {t : TypeId} (hm : (b, cs, t) ∈ args) : Blk W b cs t := by
  obtain ⟨q, hb, ht, hq, ha⟩ := h
  exact (ha _ hm).1

theorem u8s_at {W0 W : World} {p : Nat} {ys : List UInt8} {B : Nat} {x y : Int} (hx : 0 ≤ x ∧ x ≤ 255) (hy : 0 ≤ y ∧ y ≤ 255) (hl : ys.length ≤ 1000)
    (h : ∃ args, Now W0 W p ys args ∧ (B, #[Value.int .u8 x, .int .u8 y], 5) ∈ args) :
    Calls Tryz.prog 50 #[.pointer (some ⟨p, 0, none⟩), .slice (some ⟨B, 0, none⟩) 2 2] W fun en w' => en = .returned (.pointer (some ⟨p, 0, none⟩)) ∧ After W0 W w' p ys (ys ++ (be 1 x ++ be 1 y)) := by
  obtain ⟨args, ⟨q, hb, ht, hq, ha⟩, hm⟩ := h
  obtain ⟨hblk, hne, hnq⟩ := ha _ hm
  have e1 : b8 (Go.Proofs.YtcppibjllaablaaGreat.wr.byteOf x) = .int .u8 x := by unfold b8; rw [byteOf_toNat]; rw [show x % 256 = x from by omega]
  have e3 : b8 (Go.Proofs.YtcppibjllaablaaGreat.wr.byteOf y) = .int .u8 y := by unfold b8; rw [byteOf_toNat]; rw [show y % 256 = y from by omega]
  have e2 : be 1 x ++ be 1 y = [Go.Proofs.YtcppibjllaablaaGreat.wr.byteOf x, Go.Proofs.YtcppibjllaablaaGreat.wr.byteOf y] := by simp [be]
  rw [e2]
  refine (u8 p q ys [Go.Proofs.YtcppibjllaablaaGreat.wr.byteOf x, Go.Proofs.YtcppibjllaablaaGreat.wr.byteOf y] B 2 W hb (by simp only [List.map_cons, List.map_nil, e1, e3]; exact hblk) (by simp) (by simp; omega)).mono ?_
  rintro e w' ⟨rfl, hw⟩
  exact ⟨rfl, After.mk hb ht hq hw⟩
theorem u16s_at {W0 W : World} {p : Nat} {ys : List UInt8} {B : Nat} {x y : Int} (hx : 0 ≤ x ∧ x ≤ 65535) (hy : 0 ≤ y ∧ y ≤ 65535) (hl : ys.length ≤ 1000)
    (h : ∃ args, Now W0 W p ys args ∧ (B, #[Value.int .u16 x, .int .u16 y], 71) ∈ args) :
    Calls Tryz.prog 53 #[.pointer (some ⟨p, 0, none⟩), .slice (some ⟨B, 0, none⟩) 2 2] W fun en w' => en = .returned (.pointer (some ⟨p, 0, none⟩)) ∧ After W0 W w' p ys (ys ++ (be 2 x ++ be 2 y)) := by
  obtain ⟨args, ⟨q, hb, ht, hq, ha⟩, hm⟩ := h
  obtain ⟨hblk, hne, hnq⟩ := ha _ hm
  refine (u16 p q ys B 2 2 (fun i => if i = 0 then x else y) W hb (fun i hi => match i, hi with | 0, _ => hblk.cell 0 | 1, _ => hblk.cell 1) (fun i _ => by split; exact hx; exact hy) hblk.lt hne hnq (by omega)).mono ?_
  rintro e w' ⟨rfl, hw⟩
  rw [show ((List.range 2).flatMap fun i => be 2 (if i = 0 then x else y)) = be 2 x ++ be 2 y from by simp [List.range_succ]] at hw
  exact ⟨rfl, After.mk hb ht hq hw⟩
theorem u32s_at {W0 W : World} {p : Nat} {ys : List UInt8} {B : Nat} {x y : Int} (hx : 0 ≤ x ∧ x ≤ 4294967295) (hy : 0 ≤ y ∧ y ≤ 4294967295) (hl : ys.length ≤ 1000)
    (h : ∃ args, Now W0 W p ys args ∧ (B, #[Value.int .u32 x, .int .u32 y], 72) ∈ args) :
    Calls Tryz.prog 54 #[.pointer (some ⟨p, 0, none⟩), .slice (some ⟨B, 0, none⟩) 2 2] W fun en w' => en = .returned (.pointer (some ⟨p, 0, none⟩)) ∧ After W0 W w' p ys (ys ++ (be 4 x ++ be 4 y)) := by
  obtain ⟨args, ⟨q, hb, ht, hq, ha⟩, hm⟩ := h
  obtain ⟨hblk, hne, hnq⟩ := ha _ hm
  refine (u32 p q ys B 2 2 (fun i => if i = 0 then x else y) W hb (fun i hi => match i, hi with | 0, _ => hblk.cell 0 | 1, _ => hblk.cell 1) (fun i _ => by split; exact hx; exact hy) hblk.lt hne hnq (by omega)).mono ?_
  rintro e w' ⟨rfl, hw⟩
  rw [show ((List.range 2).flatMap fun i => be 4 (if i = 0 then x else y)) = be 4 x ++ be 4 y from by simp [List.range_succ]] at hw
  exact ⟨rfl, After.mk hb ht hq hw⟩

theorem row_at {W0 W : World} {p : Nat} {ys : List UInt8} {a : Option Addr} {cs : List Int} {c : Nat} (hp : p < W0.heap.size) (hr : ∃ w, Row w a cs ∧ w.heap.size ≤ p ∧ New w W0) (hz : ∀ x ∈ cs, 0 ≤ x ∧ x ≤ 4294967295) (hl : ys.length ≤ 1000) (hcl : cs.length ≤ 1000)
    (h : ∃ args, Now W0 W p ys args ∧ True) :
    Calls Tryz.prog 54 #[.pointer (some ⟨p, 0, none⟩), .slice a cs.length c] W fun en w' => en = .returned (.pointer (some ⟨p, 0, none⟩)) ∧ After W0 W w' p ys (ys ++ cs.flatMap (be 4)) := by
  obtain ⟨args, ⟨q, hb, ht, hq, ha⟩, _⟩ := h
  obtain ⟨w, hr, hwp, hn⟩ := hr
  have hrow : cs.length = 0 ∨ ∃ B off, a = some ⟨B, off, none⟩ ∧ B < W.heap.size ∧ B ≠ p ∧ q ≠ some B ∧ ∀ i, i < cs.length → W.cell? ⟨B, off + i, none⟩ = some (.int .u32 (cs.getD i 0)) := by
    rcases hr with h | ⟨B, off, rfl, hB, hc⟩
    · exact .inl h
    · refine .inr ⟨B, off, rfl, by have := ht.size; omega, by omega, ?_, fun i hi => ((ht.cell (a := ⟨B, off + i, none⟩) (show B < W0.heap.size by omega) (show ¬ B = p by omega)).trans (hn.cell hB (fun h => h))).trans (hc i hi)⟩
      rcases hq with rfl | ⟨g, rfl, hg⟩
      · simp
      · intro e; injection e with e; omega
  refine (u32_row p q ys a c cs.length (fun i => cs.getD i 0) W hb hrow (fun i hi => hz _ (by simp [List.getD, List.getElem?_eq_getElem hi])) (by omega)).mono ?_
  rintro e w' ⟨rfl, hw⟩
  rw [flat_list] at hw
  exact ⟨rfl, After.mk hb ht hq hw⟩

theorem Now.with {W0 W : World} {p : Nat} {ys : List UInt8} {b : Nat} {cs : Array Value} {t : TypeId} (h : Wrote W0 W p none ys) (hb : Blk W b cs t) (hne : b ≠ p) (hlt : b < W0.heap.size) : Now W0 W p ys [(b, cs, t)] := by
  obtain ⟨q, hw, ht, hq, _⟩ := Now.of h
  refine ⟨q, hw, ht, hq, fun a ha => ?_⟩
  rcases List.mem_cons.1 ha with rfl | ha
  · refine ⟨hb, hne, ?_⟩
    rcases hq with rfl | ⟨g, rfl, hg⟩
    · simp
    · intro e; injection e with e; simp only at e; omega
  · cases ha
theorem put_at {W0 W : World} {p : Nat} {ys : List UInt8} {B : Nat} {s : ByteArray} (hl : ys.length + s.size ≤ 100000)
    (h : ∃ args, Now W0 W p ys args ∧ (B, #[Value.string s], 9) ∈ args) :
    Calls Tryz.prog 55 #[.pointer (some ⟨p, 0, none⟩), .slice (some ⟨B, 0, none⟩) 1 1] W fun en w' => en = .returned (.pointer (some ⟨p, 0, none⟩)) ∧ After W0 W w' p ys (ys ++ s.data.toList) := by
  obtain ⟨args, ⟨q, hb, ht, hq, ha⟩, hm⟩ := h
  obtain ⟨hblk, hne, hnq⟩ := ha _ hm
  refine (put p q ys B 1 1 (fun _ => s) W hb (fun i hi => match i, hi with | 0, _ => hblk.cell 0) hblk.lt hne hnq (by omega) (by simp [size_list]; omega)).mono ?_
  rintro e w' ⟨rfl, hw⟩
  rw [show ((List.range 1).flatMap fun _ => s.data.toList) = s.data.toList from by simp] at hw
  exact ⟨rfl, After.mk hb ht hq hw⟩

theorem rep_zero (m : Nat) : Lib.repeatL [0] m = List.replicate m (0 : UInt8) := by
  induction m with
  | zero => rfl
  | succ m ih => rw [List.replicate_succ, ← ih]; rfl
theorem repeat_any (m : Nat) (hm : m ≤ 1000) (w : World) :
    Calls Tryz.prog 56 #[.string ⟨#[0]⟩, .int .i64 m] w fun e w' => e = .returned (.string ⟨(List.replicate m (0 : UInt8)).toArray⟩) ∧ New w w' := by
  refine (Tryz.strings_Repeat ⟨#[0]⟩ m w (by omega) (by show 1 * m ≤ _; omega)).mono ?_
  rintro e w' ⟨rfl, hb⟩
  refine ⟨?_, (Turns.of_below hb).mono (fun k hk h => by omega)⟩
  show Ending.returned (.string ⟨(Lib.repeatL [0] m).toArray⟩) = _
  rw [rep_zero]
theorem Wrote.new {w wr w' : World} {p : Nat} {q : Option Nat} {ys : List UInt8} (h : Wrote w wr p q ys) (k : New wr w') : Wrote w w' p q ys := vp.Wrote.new h k

theorem h1_bd (p : P) (h : V p) : 0 ≤ h1 p ∧ h1 p ≤ 255 := by
  unfold h1 bitI
  have := h.csn
  split <;> split <;> omega
theorem h2_bd (p : P) (h : V p) : 0 ≤ h2 p ∧ h2 p ≤ 255 := by
  unfold h2 bitI
  have := h.typ
  split <;> omega

/-- what the region's loads read -/
def PCs (mrk : Bool) (typ seq time ssrc : Int) (a : Option Addr) (n c : Nat) (ext : Bool) (prof : Int) (data pay : ByteArray) (pad : Int) : Array Value :=
  #[.bool mrk, .int .u8 typ, .int .u16 seq, .int .u32 time, .int .u32 ssrc, .slice a n c, .bool ext, .int .u16 prof, .string data, .string pay, .int .i64 pad]
theorem keep11 {W0 W : World} {p : Nat} {ys : List UInt8} {b : Nat} {mrk : Bool} {typ seq time ssrc : Int} {a : Option Addr} {n c : Nat} {ext : Bool} {prof : Int} {data pay : ByteArray} {pad : Int}
    (h : ∃ args, Now W0 W p ys args ∧ (b, PCs mrk typ seq time ssrc a n c ext prof data pay pad, PT) ∈ args) :
    W.cell? ⟨b, 0, none⟩ = some (.bool mrk) ∧ W.cell? ⟨b, 1, none⟩ = some (.int .u8 typ) ∧ W.cell? ⟨b, 2, none⟩ = some (.int .u16 seq) ∧ W.cell? ⟨b, 3, none⟩ = some (.int .u32 time) ∧ W.cell? ⟨b, 4, none⟩ = some (.int .u32 ssrc) ∧ W.cell? ⟨b, 5, none⟩ = some (.slice a n c) ∧ W.cell? ⟨b, 6, none⟩ = some (.bool ext)
    ∧ W.cell? ⟨b, 7, none⟩ = some (.int .u16 prof) ∧ W.cell? ⟨b, 8, none⟩ = some (.string data) ∧ W.cell? ⟨b, 9, none⟩ = some (.string pay) ∧ W.cell? ⟨b, 10, none⟩ = some (.int .i64 pad) := by
  obtain ⟨args, hn, hm⟩ := h
  exact cells11 (Now.blk hn hm)

/-- Text's first statement and what stands around it: a region of its own -/
def Done (W0 W : World) (pw pd : Nat) (ys : List UInt8) (PC : Array Value) : Prop := Wrote W0 W pw none ys ∧ Blk W pd PC PT
theorem done_of {W0 W : World} {pw pd : Nat} {ys : List UInt8} {PC : Array Value} (h : ∃ args, Now W0 W pw ys args ∧ (pd, PC, PT) ∈ args) : Done W0 W pw pd ys PC := by
  obtain ⟨args, hn, hm⟩ := h
  exact ⟨hn.done, Now.blk hn hm⟩

set_option maxRecDepth 100000 in
set_option maxHeartbeats 40000000 in
theorem text (p : P) (hv : V p) (a : Option Addr) (c : Nat) (w : World) (hr : Row w a p.cs) :
    Calls Tryz.prog 17 #[.agg (pc p (.slice a p.cs.length c))] w fun e w' => e = .returned (.string ⟨(tx p).toArray⟩) ∧ New w w' := by
  have HF1 := Lib.hid (fun w => first p hv a c w)
  have HF2 := Lib.hid (fun w => second p hv a p.cs.length c w)
  have hb1 := h1_bd p hv
  have hb2 := h2_bd p hv
  have HV := Lib.hid hv
  have HTX : Hid (tx p = tx1 p ++ txE p ++ p.pay.data.toList ++ txP p) := Lib.hid rfl
  have HT1 : Hid (tx1 p = be 1 (h1 p) ++ be 1 (h2 p) ++ be 2 p.seq ++ be 4 p.time ++ be 4 p.ssrc ++ p.cs.flatMap (be 4)) := Lib.hid rfl
  have HTE : Hid (txE p = if p.ext then be 2 p.prof ++ be 2 ((p.data.size / 4 : Nat) : Int) ++ p.data.data.toList else []) := Lib.hid rfl
  have HTP : Hid (txP p = if 0 < p.pad then List.replicate (p.pad - 1).toNat 0 ++ be 1 p.pad else []) := Lib.hid rfl
  have hcn := hv.csn
  have hseq := hv.seq
  have htime := hv.time
  have hssrc := hv.ssrc
  have hcs := hv.cs
  generalize h1 p = b1 at *
  generalize h2 p = b2 at *
  generalize tx p = T at *
  generalize tx1 p = T1 at *
  generalize txE p = TE at *
  generalize txP p = TP at *
  obtain ⟨mrk, typ, seq, time, ssrc, cs, ext, prof, data, pay, pad⟩ := p
  simp only [pc] at *
  obtain ⟨n, hn⟩ : ∃ n, n = cs.length := ⟨_, rfl⟩
  have hfl : (cs.flatMap (be 4)).length ≤ 60 := by
    clear HT1
    have : ∀ l : List Int, (l.flatMap (be 4)).length = 4 * l.length := by
      intro l; induction l with
      | nil => rfl
      | cons x l ih => rw [List.flatMap_cons, List.length_append, ih, be_length, List.length_cons]; omega
    rw [this]; omega
  have hb0 := (Blk.new w #[.bool mrk, .int .u8 typ, .int .u16 seq, .int .u32 time, .int .u32 ssrc, .slice a n c, .bool ext, .int .u16 prof, .string data, .string pay, .int .i64 pad] PT).alloc (.cells #[.slice none 0 0] 130)
  have hn0 : New w ((w.alloc (.cells #[.bool mrk, .int .u8 typ, .int .u16 seq, .int .u32 time, .int .u32 ssrc, .slice a n c, .bool ext, .int .u16 prof, .string data, .string pay, .int .i64 pad] PT)).alloc (.cells #[.slice none 0 0] 130)) := ((Turns.refl _ _).alloc _).alloc _
  have hw0 := fresh (Blk.new (w.alloc (.cells #[.bool mrk, .int .u8 typ, .int .u16 seq, .int .u32 time, .int .u32 ssrc, .slice a n c, .bool ext, .int .u16 prof, .string data, .string pay, .int .i64 pad] PT)) #[.slice none 0 0] 130)
  rw [World.size_alloc] at hw0
  have hlt0 := hw0.lt
  have HROW : Hid (∃ w1, Row w1 a cs ∧ w1.heap.size ≤ w.heap.size + 1 ∧ New w1 ((w.alloc (.cells #[.bool mrk, .int .u8 typ, .int .u16 seq, .int .u32 time, .int .u32 ssrc, .slice a n c, .bool ext, .int .u16 prof, .string data, .string pay, .int .i64 pad] PT)).alloc (.cells #[.slice none 0 0] 130))) := Lib.hid ⟨w, hr, by omega, hn0⟩
  rw [← hn] at HF1 HF2 ⊢
  clear hr
  have HC8 := Lib.hid (fun W B h => u8s_at (W0 := (w.alloc (.cells #[.bool mrk, .int .u8 typ, .int .u16 seq, .int .u32 time, .int .u32 ssrc, .slice a n c, .bool ext, .int .u16 prof, .string data, .string pay, .int .i64 pad] PT)).alloc (.cells #[.slice none 0 0] 130)) (W := W) (p := w.heap.size + 1) (ys := []) (B := B) hb1 hb2 (by simp) h)
  have HC16 := Lib.hid (fun W B h => u16_at (W0 := (w.alloc (.cells #[.bool mrk, .int .u8 typ, .int .u16 seq, .int .u32 time, .int .u32 ssrc, .slice a n c, .bool ext, .int .u16 prof, .string data, .string pay, .int .i64 pad] PT)).alloc (.cells #[.slice none 0 0] 130)) (W := W) (p := w.heap.size + 1) (ys := [] ++ (be 1 b1 ++ be 1 b2)) (B := B) hseq (by simp [be_length]) h)
  have HC32 := Lib.hid (fun W B h => u32s_at (W0 := (w.alloc (.cells #[.bool mrk, .int .u8 typ, .int .u16 seq, .int .u32 time, .int .u32 ssrc, .slice a n c, .bool ext, .int .u16 prof, .string data, .string pay, .int .i64 pad] PT)).alloc (.cells #[.slice none 0 0] 130)) (W := W) (p := w.heap.size + 1) (ys := [] ++ (be 1 b1 ++ be 1 b2) ++ be 2 seq) (B := B) htime hssrc (by simp [be_length]) h)
  have HCR := Lib.hid (fun W h => row_at (W0 := (w.alloc (.cells #[.bool mrk, .int .u8 typ, .int .u16 seq, .int .u32 time, .int .u32 ssrc, .slice a n c, .bool ext, .int .u16 prof, .string data, .string pay, .int .i64 pad] PT)).alloc (.cells #[.slice none 0 0] 130)) (W := W) (p := w.heap.size + 1) (c := c) (ys := [] ++ (be 1 b1 ++ be 1 b2) ++ be 2 seq ++ (be 4 time ++ be 4 ssrc)) hlt0 HROW.out hcs (by simp [be_length]) (by omega) h)
  rw [← hn] at HCR
  have HNL := Lib.hid hn
  clear hn
  have hnow : Now ((w.alloc (.cells #[.bool mrk, .int .u8 typ, .int .u16 seq, .int .u32 time, .int .u32 ssrc, .slice a n c, .bool ext, .int .u16 prof, .string data, .string pay, .int .i64 pad] PT)).alloc (.cells #[.slice none 0 0] 130)) ((w.alloc (.cells #[.bool mrk, .int .u8 typ, .int .u16 seq, .int .u32 time, .int .u32 ssrc, .slice a n c, .bool ext, .int .u16 prof, .string data, .string pay, .int .i64 pad] PT)).alloc (.cells #[.slice none 0 0] 130)) (w.heap.size + 1) [] [(w.heap.size, #[.bool mrk, .int .u8 typ, .int .u16 seq, .int .u32 time, .int .u32 ssrc, .slice a n c, .bool ext, .int .u16 prof, .string data, .string pay, .int .i64 pad], PT)] :=
    ⟨none, hw0, Turns.refl _ _, .inl rfl, fun x hx => by
      rcases List.mem_cons.1 hx with rfl | hx
      · exact ⟨hb0, by simp, by simp⟩
      · cases hx⟩
  have HN := Lib.hid hnow
  have HB0 := Lib.hid hb0
  have HN0 := Lib.hid hn0
  have HTD : Hid (T1 = [] ++ (be 1 b1 ++ be 1 b2) ++ be 2 seq ++ (be 4 time ++ be 4 ssrc) ++ cs.flatMap (be 4)) := Lib.hid (by rw [HT1.out]; simp only [List.nil_append, List.append_assoc])
  have HBS : Hid (data.size ≤ 1500 ∧ (0 ≤ prof ∧ prof ≤ 65535) ∧ T1.length ≤ 200) := by
    have h1 := hv.len
    have h2 := hv.prof
    have h3 := hv.none
    simp only at h1 h2 h3
    refine Lib.hid ⟨?_, h2, ?_⟩
    · by_cases he : ext = true
      · rw [if_pos he] at h1; omega
      · have := (h3 (by simpa using he)).2; omega
    · rw [HT1.out]; simp only [List.length_append, be_length]; omega
  have HLN : Hid (TE.length ≤ 1600 ∧ pay.size ≤ 1500 ∧ 0 ≤ pad ∧ pad ≤ 255) := by
    have h1 := hv.len
    have h2 := hv.pad
    simp only at h1 h2
    refine Lib.hid ⟨?_, by omega, h2⟩
    have h3 := HBS.out.1
    have h4 : data.data.toList.length = data.size := Go.Proofs.YtcppibjllaablaaGreat.wr.size_list data
    rw [HTE.out]
    split
    · simp only [List.length_append, be_length]; omega
    · simp
  have HNE : Hid (w.heap.size ≠ w.heap.size + 1 ∧ w.heap.size < ((w.alloc (.cells #[.bool mrk, .int .u8 typ, .int .u16 seq, .int .u32 time, .int .u32 ssrc, .slice a n c, .bool ext, .int .u16 prof, .string data, .string pay, .int .i64 pad] PT)).alloc (.cells #[.slice none 0 0] 130)).heap.size) := Lib.hid ⟨by omega, by omega⟩
  clear hnow hb0 hn0 hw0 HT1 HROW hcs hcn hseq htime hssrc hb1 hb2
  go_enter Tryz.func17, Tryz.ntmps17
  go_upto_region 2 with fail
  generalize (w.alloc (.cells #[.bool mrk, .int .u8 typ, .int .u16 seq, .int .u32 time, .int .u32 ssrc, .slice a n c, .bool ext, .int .u16 prof, .string data, .string pay, .int .i64 pad] PT)).alloc (.cells #[.slice none 0 0] 130) = W0 at *
  have hPDW : w.heap.size < w.heap.size + 1 := by omega
  generalize hpw : w.heap.size + 1 = pw at *
  generalize hpd : w.heap.size = pd at *
  have HPW := Lib.hid (And.intro hpw hpd)
  clear hpw hpd
  go_cut [] (fun wx => Wrote W0 wx pw none T1 ∧ Blk wx pd #[.bool mrk, .int .u8 typ, .int .u16 seq, .int .u32 time, .int .u32 ssrc, .slice a n c, .bool ext, .int .u16 prof, .string data, .string pay, .int .i64 pad] PT)
  case first =>
    obtain ⟨d0, d1, d2, d3, d4, d5, d6, d7, d8, d9, d10⟩ := cells11 HB0.out
    generalize ([] ++ (be 1 b1 ++ be 1 b2) ++ be 2 seq ++ (be 4 time ++ be 4 ssrc) ++ cs.flatMap (be 4) : List UInt8) = Y4 at *
    generalize ([] ++ (be 1 b1 ++ be 1 b2) ++ be 2 seq ++ (be 4 time ++ be 4 ssrc) : List UInt8) = Y3 at *
    generalize ([] ++ (be 1 b1 ++ be 1 b2) ++ be 2 seq : List UInt8) = Y2 at *
    generalize ([] ++ (be 1 b1 ++ be 1 b2) : List UInt8) = Y1 at *
    go_region_held3 (fun w' => w'.cell? ⟨pd, 0, none⟩ = some (.bool mrk) ∧ w'.cell? ⟨pd, 1, none⟩ = some (.int .u8 typ) ∧ w'.cell? ⟨pd, 2, none⟩ = some (.int .u16 seq) ∧ w'.cell? ⟨pd, 3, none⟩ = some (.int .u32 time) ∧ w'.cell? ⟨pd, 4, none⟩ = some (.int .u32 ssrc) ∧ w'.cell? ⟨pd, 5, none⟩ = some (.slice a n c) ∧ w'.cell? ⟨pd, 6, none⟩ = some (.bool ext) ∧ w'.cell? ⟨pd, 7, none⟩ = some (.int .u16 prof) ∧ w'.cell? ⟨pd, 8, none⟩ = some (.string data) ∧ w'.cell? ⟨pd, 9, none⟩ = some (.string pay) ∧ w'.cell? ⟨pd, 10, none⟩ = some (.int .i64 pad)) (first | assumption | (as_aux_lemma => (apply keep11 (W0 := W0) (p := pw); apply Exists.intro; apply And.intro; (focus (repeat (first | exact HN.out | apply Now.drew | apply Now.alloc | apply hA | apply hB | apply hC.1 | apply hD.1 | apply hE.1 | apply hF.1))); (focus (simp [PCs])))))
      (first
        | (go_at_call 51; (with_reducible refine Calls.mono (HF1.out _) ?_); rintro en whA ⟨rfl, kA⟩; have hA : ∀ ys args, Now W0 _ pw ys args → Now W0 whA pw ys args := fun _ _ h => Now.new h kA)
        | (go_at_call 52; (with_reducible refine Calls.mono (HF2.out _) ?_); rintro en whB ⟨rfl, kB⟩; have hB : ∀ ys args, Now W0 _ pw ys args → Now W0 whB pw ys args := fun _ _ h => Now.new h kB)
        | (go_at_call 50; (with_reducible refine Calls.mono (HC8.out _ _ ?_) ?_); (focus (as_aux_lemma => (apply Exists.intro; apply And.intro; (focus (repeat (first | exact HN.out | apply Now.drew | apply Now.alloc | apply hA | apply hB | apply hC.1 | apply hD.1 | apply hE.1 | apply hF.1))); (focus (simp))))); rintro en whC ⟨rfl, hC⟩)
        | (go_at_call 53; (with_reducible refine Calls.mono (HC16.out _ _ ?_) ?_); (focus (as_aux_lemma => (apply Exists.intro; apply And.intro; (focus (repeat (first | exact HN.out | apply Now.drew | apply Now.alloc | apply hA | apply hB | apply hC.1 | apply hD.1 | apply hE.1 | apply hF.1))); (focus (simp))))); rintro en whD ⟨rfl, hD⟩)
        | (go_at_call 54; (with_reducible refine Calls.mono (HC32.out _ _ ?_) ?_); (focus (as_aux_lemma => (apply Exists.intro; apply And.intro; (focus (repeat (first | exact HN.out | apply Now.drew | apply Now.alloc | apply hA | apply hB | apply hC.1 | apply hD.1 | apply hE.1 | apply hF.1))); (focus (simp))))); rintro en whE ⟨rfl, hE⟩)
        | (go_at_call 54; (with_reducible refine Calls.mono (HCR.out _ ?_) ?_); (focus (as_aux_lemma => (apply Exists.intro; apply And.intro; (focus (repeat (first | exact HN.out | apply Now.drew | apply Now.alloc | apply hA | apply hB | apply hC.1 | apply hD.1 | apply hE.1 | apply hF.1))); (focus (simp))))); rintro en whF ⟨rfl, hF⟩))
    all_goals
      (as_aux_lemma => (go_wp2_with fail; go_meet; rw [HTD.out]; apply done_of; apply Exists.intro; apply And.intro; (focus (repeat (first | exact HN.out | apply Now.drew | apply Now.alloc | apply hA | apply hB | apply hC.1 | apply hD.1 | apply hE.1 | apply hF.1))); (focus (simp))))
  case rest =>
    have H1 := Lib.hid hcut
    clear hcut HN HTD HF1 HF2 HC8 HC16 HC32 HCR
    obtain ⟨d0, d1, d2, d3, d4, d5, d6, d7, d8, d9, d10⟩ := cells11 H1.out.2
    go_upto_if 25 with fail
    go_cut [] (fun wx => Wrote W0 wx pw none (T1 ++ TE) ∧ Blk wx pd #[.bool mrk, .int .u8 typ, .int .u16 seq, .int .u32 time, .int .u32 ssrc, .slice a n c, .bool ext, .int .u16 prof, .string data, .string pay, .int .i64 pad] PT)
    case first =>
      cases ext
      · rw [if_neg (by simp)] at HTE
        go_wp2_with fail
        go_meet
        case rel => rw [HTE.out, List.append_nil]; exact H1.out
      · rw [if_pos rfl] at HTE
        obtain ⟨k, hk⟩ : ∃ k : Nat, k = data.size / 4 := ⟨_, rfl⟩
        have hds : data.size ≤ 1500 := HBS.out.1
        have hk1 : (data.size : Int) / 4 = (k : Int) := by omega
        have hk2 : (data.size : Int).tdiv 4 = (k : Int) := by rw [Int.tdiv_eq_ediv_of_nonneg (by omega)]; omega
        have hk3 : IntKind.u16.wrap (k : Int) = (k : Int) := by rw [IntKind.wrap_u16]; omega
        have hk4 : IntKind.i64.wrap (k : Int) = (k : Int) := IntWalk.i64_in _ (by omega)
        have hkb : 0 ≤ (k : Int) ∧ (k : Int) ≤ 65535 := by omega
        rw [← hk] at HTE
        have hp16 := HBS.out.2.1
        have hT1 := HBS.out.2.2
        clear hk
        have HM := Lib.hid (Now.with H1.out.1 H1.out.2 HNE.out.1 HNE.out.2)
        have HC16 := Lib.hid (fun W B h => u16s_at (W0 := W0) (W := W) (p := pw) (ys := T1) (B := B) hp16 hkb (by omega) h)
        have HCP := Lib.hid (fun W B h => put_at (W0 := W0) (W := W) (p := pw) (ys := T1 ++ (be 2 prof ++ be 2 (k : Int))) (B := B) (s := data) (by simp [be_length]; omega) h)
        have HTF : Hid (T1 ++ TE = T1 ++ (be 2 prof ++ be 2 (k : Int)) ++ data.data.toList) := Lib.hid (by rw [HTE.out]; simp only [List.append_assoc])
        clear hp16 hT1 hkb hds
        generalize T1 ++ (be 2 prof ++ be 2 (k : Int)) = Y1 at *
        go_wp2_with fail
        go_region_held3 (fun w' => w'.cell? ⟨pd, 0, none⟩ = some (.bool mrk) ∧ w'.cell? ⟨pd, 1, none⟩ = some (.int .u8 typ) ∧ w'.cell? ⟨pd, 2, none⟩ = some (.int .u16 seq) ∧ w'.cell? ⟨pd, 3, none⟩ = some (.int .u32 time) ∧ w'.cell? ⟨pd, 4, none⟩ = some (.int .u32 ssrc) ∧ w'.cell? ⟨pd, 5, none⟩ = some (.slice a n c) ∧ w'.cell? ⟨pd, 6, none⟩ = some (.bool true) ∧ w'.cell? ⟨pd, 7, none⟩ = some (.int .u16 prof) ∧ w'.cell? ⟨pd, 8, none⟩ = some (.string data) ∧ w'.cell? ⟨pd, 9, none⟩ = some (.string pay) ∧ w'.cell? ⟨pd, 10, none⟩ = some (.int .i64 pad)) (first | assumption | (as_aux_lemma => (apply keep11 (W0 := W0) (p := pw); apply Exists.intro; apply And.intro; (focus (repeat (first | exact HM.out | apply Now.drew | apply Now.alloc | apply hC.1 | apply hD.1))); (focus (simp [PCs])))))
          (first
            | (go_at_call 53; (with_reducible refine Calls.mono (HC16.out _ _ ?_) ?_); (focus (as_aux_lemma => (apply Exists.intro; apply And.intro; (focus (repeat (first | exact HM.out | apply Now.drew | apply Now.alloc | apply hC.1 | apply hD.1))); (focus (simp))))); rintro en whC ⟨rfl, hC⟩)
            | (go_at_call 55; (with_reducible refine Calls.mono (HCP.out _ _ ?_) ?_); (focus (as_aux_lemma => (apply Exists.intro; apply And.intro; (focus (repeat (first | exact HM.out | apply Now.drew | apply Now.alloc | apply hC.1 | apply hD.1))); (focus (simp))))); rintro en whD ⟨rfl, hD⟩))
        all_goals
          (as_aux_lemma => (go_wp2_with fail; go_meet; rw [HTF.out]; apply done_of; apply Exists.intro; apply And.intro; (focus (repeat (first | exact HM.out | apply Now.drew | apply Now.alloc | apply hC.1 | apply hD.1))); (focus (simp))))
    case rest =>
      have H2 := Lib.hid hcut
      clear hcut H1 d0 d1 d2 d3 d4 d5 d6 d7 d8 d9 d10
      have hTE : TE.length ≤ 1600 := HLN.out.1
      have hT1 : T1.length ≤ 200 := HBS.out.2.2
      have hpy : pay.size ≤ 1500 := HLN.out.2.1
      have hpd := HLN.out.2.2
      obtain ⟨A, hA⟩ : ∃ A, A = T1 ++ TE := ⟨_, rfl⟩
      have hAl : A.length ≤ 1800 := by rw [hA, List.length_append]; omega
      rw [← hA] at H2 HTX
      clear hA
      obtain ⟨d0, d1, d2, d3, d4, d5, d6, d7, d8, d9, d10⟩ := cells11 H2.out.2
      go_wp2_with fail
      refine (put_lit H2.out.1 pay (by omega) _ rfl).mono ?_
      rintro e w3 ⟨rfl, hw3⟩
      have hb3 : Blk w3 pd #[.bool mrk, .int .u8 typ, .int .u16 seq, .int .u32 time, .int .u32 ssrc, .slice a n c, .bool ext, .int .u16 prof, .string data, .string pay, .int .i64 pad] PT := (Wrote.turns hw3).blk HB0.out (by rintro (h | h); exact HNE.out.1 h; cases h)
      have H3 := Lib.hid (And.intro hw3 hb3)
      clear hw3 H2 d0 d1 d2 d3 d4 d5 d6 d7 d8 d9 d10
      obtain ⟨d0, d1, d2, d3, d4, d5, d6, d7, d8, d9, d10⟩ := cells11 hb3
      clear hb3
      have hpl : pay.data.toList.length = pay.size := Go.Proofs.YtcppibjllaablaaGreat.wr.size_list pay
      have hBl : (A ++ pay.data.toList).length ≤ 3300 := by rw [List.length_append]; omega
      generalize A ++ pay.data.toList = B at *
      have hcv : IntKind.u8.wrap pad = pad := by rw [IntKind.wrap_u8]; omega
      clear hpl hTE hT1 hpy
      by_cases hp0 : 0 < pad
      · have hp0' : decide (0 < pad) = true := decide_eq_true hp0
        rw [if_pos hp0] at HTP
        obtain ⟨m, hm⟩ : ∃ m : Nat, pad = (m : Int) + 1 := ⟨(pad - 1).toNat, by omega⟩
        have hm2 : (pad - 1).toNat = m := by omega
        have hm3 : pad - 1 = (m : Int) := by omega
        have hmb : m ≤ 1000 := by omega
        rw [hm2] at HTP
        have HRp := Lib.hid (fun w => repeat_any m hmb w)
        clear hm hm2
        go_wp2_with fail
        refine (HRp.out w3).mono ?_
        rintro e w4 ⟨rfl, hn4⟩
        have hw4 := Wrote.new H3.out.1 hn4
        obtain ⟨Z, hZ, hZs⟩ : ∃ Z : ByteArray, Z = ⟨(List.replicate m (0 : UInt8)).toArray⟩ ∧ Z.size = m := ⟨_, rfl, by rw [size_mk]; simp⟩
        have hZl : Z.data.toList = List.replicate m (0 : UInt8) := by rw [hZ]
        rw [← hZ]
        clear hZ hn4 hm3
        have HZl := Lib.hid hZl
        have HZs := Lib.hid hZs
        clear hZl hZs
        go_wp2_with fail
        refine (put_lit hw4 Z (by rw [HZs.out]; omega) _ rfl).mono ?_
        rintro e w5 ⟨rfl, hw5⟩
        rw [HZl.out] at hw5
        go_wp2_with fail
        refine (u8_lit hw5 pad (by omega) (by omega) (by simp only [List.length_append, List.length_replicate]; omega) _ rfl).mono ?_
        rintro e w6 ⟨rfl, hw6⟩
        obtain ⟨q6, hb6, ht6, _⟩ := hw6
        have HT := Lib.hid (Go.Proofs.YtcppibjllaablaaGreat.wr.text _ q6 _ w6 hb6)
        have hn6 : New w w6 := HN0.out.trans (ht6.mono (fun k _ h => .inr (by rcases h with h | h; rw [h]; have := HPW.out.1; have := HPW.out.2; omega; cases h)))
        clear hw4 hw5 hb6 ht6
        go_wp2_with fail
        refine (HT.out).mono ?_
        rintro e w7 ⟨rfl, rfl⟩
        go_wp2
        go_ret
        rw [HTX.out, HTP.out]
        simp only [List.append_assoc]
        exact ⟨rfl, hn6⟩
      · have hp0' : decide (0 < pad) = false := decide_eq_false hp0
        rw [if_neg hp0] at HTP
        obtain ⟨q6, hb6, ht6, _⟩ := H3.out.1
        have HT := Lib.hid (Go.Proofs.YtcppibjllaablaaGreat.wr.text _ q6 _ w3 hb6)
        have hn6 : New w w3 := HN0.out.trans (ht6.mono (fun k _ h => .inr (by rcases h with h | h; rw [h]; have := HPW.out.1; have := HPW.out.2; omega; cases h)))
        have HN6 := Lib.hid hn6
        clear hb6 ht6 hn6
        go_wp2_with fail
        refine (HT.out).mono ?_
        rintro e w7 ⟨rfl, rfl⟩
        go_wp2
        go_ret
        rw [HTX.out, HTP.out, List.append_nil]
        exact ⟨rfl, HN6.out⟩
end Go.Proofs.YtcppibjllaablaaGreat.rp
