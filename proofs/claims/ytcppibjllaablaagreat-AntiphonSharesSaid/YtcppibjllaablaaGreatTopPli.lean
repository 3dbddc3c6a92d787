/-
  rtcp's Text of one Pli{1, 2}.
-/
import Derived.Test.YtcppibjllaablaaGreatOctLit
namespace Go.Proofs.YtcppibjllaablaaGreat.top
open Go.RowKit mem rd wr oref
set_option linter.unusedVariables false

abbrev bo : Int → UInt8 := Go.Proofs.YtcppibjllaablaaGreat.wr.byteOf
abbrev New (w w' : World) : Prop := Turns (fun _ => False) w w'

theorem u32_two {w wr : World} {p : Nat} {q : Option Nat} {ys : List UInt8} (h : Wrote w wr p q ys) (x y : Int) (hx : 0 ≤ x) (hx' : x ≤ 4294967295) (hy : 0 ≤ y) (hy' : y ≤ 4294967295) (hmax : ys.length + 16 ≤ 140737488355328) (B : Nat) (hB : wr.heap.size = B) :
    Calls Tryz.prog 54 #[.pointer (some ⟨p, 0, none⟩), .slice (some ⟨B, 0, none⟩) 2 2] (wr.alloc (.cells #[.int .u32 x, .int .u32 y] 72))
      fun en w' => en = .returned (.pointer (some ⟨p, 0, none⟩)) ∧ Wrote w w' p q (ys ++ (be 4 x ++ be 4 y)) := by
  have := u32s_lit h [x, y] (by simp; omega) (by simpa using hmax) B hB
  simp only [List.flatMap_cons, List.flatMap_nil, List.append_nil] at this
  exact this
theorem u8_two {w wr : World} {p : Nat} {q : Option Nat} {ys : List UInt8} (h : Wrote w wr p q ys) (x y : Int) (hx : 0 ≤ x) (hx' : x ≤ 255) (hy : 0 ≤ y) (hy' : y ≤ 255) (hmax : ys.length + 2 ≤ 140737488355328) (B : Nat) (hB : wr.heap.size = B) :
    Calls Tryz.prog 50 #[.pointer (some ⟨p, 0, none⟩), .slice (some ⟨B, 0, none⟩) 2 2] (wr.alloc (.cells #[.int .u8 x, .int .u8 y] 5))
      fun en w' => en = .returned (.pointer (some ⟨p, 0, none⟩)) ∧ Wrote w w' p q (ys ++ [bo x, bo y]) := by
  have e1 : b8 (bo x) = .int .u8 x := by unfold b8; rw [Go.Proofs.YtcppibjllaablaaGreat.wr.byteOf_toNat]; rw [show x % 256 = x from by omega]
  have e2 : b8 (bo y) = .int .u8 y := by unfold b8; rw [Go.Proofs.YtcppibjllaablaaGreat.wr.byteOf_toNat]; rw [show y % 256 = y from by omega]
  have := u8s_lit h [bo x, bo y] (by simp) (by simpa using hmax) B hB
  simp only [List.map_cons, List.map_nil, e1, e2] at this
  exact this

abbrev pliV : Value := .iface 84 (.agg #[.int .u32 1, .int .u32 2])

abbrev IfT : TypeId := 141
theorem no1 (w : World) : (Instr.typeAssert pliV IfT 204 true).run Tryz.prog w = .ok (.tuple #[.agg #[.int .u32 0, .int .u64 0, .int .u32 0, .int .u32 0, .int .u32 0, .slice none 0 0], .bool false]) w := by kernel_rfl
theorem no2 (w : World) : (Instr.typeAssert pliV IfT 206 true).run Tryz.prog w = .ok (.tuple #[.agg #[.int .u32 0, .slice none 0 0], .bool false]) w := by kernel_rfl
theorem no3 (w : World) : (Instr.typeAssert pliV IfT 210 true).run Tryz.prog w = .ok (.tuple #[.agg #[.slice none 0 0], .bool false]) w := by kernel_rfl
theorem no4 (w : World) : (Instr.typeAssert pliV IfT 212 true).run Tryz.prog w = .ok (.tuple #[.agg #[.slice none 0 0, .string ⟨#[]⟩], .bool false]) w := by kernel_rfl
theorem no5 (w : World) : (Instr.typeAssert pliV IfT 215 true).run Tryz.prog w = .ok (.tuple #[.agg #[.int .u32 0, .int .u32 0, .slice none 0 0], .bool false]) w := by kernel_rfl
theorem yes6 (w : World) : (Instr.typeAssert pliV IfT 84 true).run Tryz.prog w = .ok (.tuple #[.agg #[.int .u32 1, .int .u32 2], .bool true]) w := by kernel_rfl

set_option maxRecDepth 100000 in
theorem body_pli (w : World) :
    Calls Tryz.prog 61 #[pliV] w fun e w' => e = .returned (.string ⟨(be 4 1 ++ be 4 2).toArray⟩) ∧ New w w' := by
  have t1 := no1
  have t2 := no2
  have t3 := no3
  have t4 := no4
  have t5 := no5
  have t6 := yes6
  go_enter Tryz.func61, Tryz.ntmps61
  go_wp2_with fail
  have hb0 := (Blk.new w #[.slice none 0 0] 130).alloc (.cells #[.int .u32 1, .int .u32 2] 84)
  have hn0 : New w ((w.alloc (.cells #[.slice none 0 0] 130)).alloc (.cells #[.int .u32 1, .int .u32 2] 84)) := ((Turns.refl _ _).alloc _).alloc _
  have hw0 := Wrote.refl (fresh hb0)
  have hsz : ((w.alloc (.cells #[.slice none 0 0] 130)).alloc (.cells #[.int .u32 1, .int .u32 2] 84)).heap.size = w.heap.size + 1 + 1 := by rw [World.size_alloc, World.size_alloc]
  generalize (w.alloc (.cells #[.slice none 0 0] 130)).alloc (.cells #[.int .u32 1, .int .u32 2] 84) = w0 at *
  refine (u32_two hw0 1 2 (by omega) (by omega) (by omega) (by omega) (by simp) _ hsz).mono ?_
  rintro e w3 ⟨rfl, hw3⟩
  rw [List.nil_append] at hw3
  obtain ⟨q3, hb3, ht3, hq3⟩ := hw3
  have hN3 : New w w3 := hn0.trans (ht3.mono (fun k _ h => .inr (by rcases h with h | h; omega; cases h)))
  have HP := Lib.hid (pad_many _ q3 _ 4 w3 hb3 (by omega) (by omega) (by simp [be_length]))
  clear hb0 hw0 hb3 t1 t2 t3 t4 t5 t6
  go_wp2_with fail
  refine HP.out.mono ?_
  rintro e w4 ⟨rfl, hw4⟩
  have hpd : be 4 1 ++ be 4 2 ++ List.replicate (padN (be 4 1 ++ be 4 2).length 4) (0 : UInt8) = be 4 1 ++ be 4 2 := by decide
  rw [hpd] at hw4
  have hw5 := Wrote.step ht3 hq3 hw4
  obtain ⟨q4, hb4, ht4, _⟩ := hw4
  obtain ⟨_, _, ht5, _⟩ := hw5
  have hN4 : New w w4 := hn0.trans (ht5.mono (fun k _ h => .inr (by rcases h with h | h; omega; cases h)))
  have HT := Lib.hid (Go.Proofs.YtcppibjllaablaaGreat.wr.text _ q4 _ w4 hb4)
  clear hb4 ht4 ht5 ht3 hq3 HP
  go_wp2_with fail
  refine HT.out.mono ?_
  rintro e w5 ⟨rfl, rfl⟩
  go_wp2
  go_ret
  exact ⟨rfl, hN4⟩

theorem head_pli (w : World) :
    Calls Tryz.prog 171 #[.agg #[.int .u32 1, .int .u32 2]] w fun e w' => e = .returned (.tuple #[.int .u8 206, .int .u8 1]) ∧ New w w' := by
  go_enter Tryz.func171, Tryz.ntmps171
  go_wp2
  go_returns
  exact ⟨rfl, (Turns.refl _ _).alloc _⟩

theorem wnew {w wr w' : World} {p : Nat} {q : Option Nat} {ys : List UInt8} (h : Wrote w wr p q ys) (k : New wr w') : Wrote w w' p q ys := by
  obtain ⟨q1, hb, ht, hq⟩ := h
  exact ⟨q1, hb.turns k (fun h => h) (fun _ _ h => h), ht.trans (k.mono (fun _ _ h => h.elim)), hq⟩

def pliL : List UInt8 := [129, 206, 0, 2, 0, 0, 0, 1, 0, 0, 0, 2]
set_option maxRecDepth 100000 in
theorem text_pli (b : Nat) (w : World) (hb : Blk w b #[pliV] 141) :
    Calls Tryz.prog 20 #[.slice (some ⟨b, 0, none⟩) 1 1] w fun e w' => e = .returned (.string ⟨pliL.toArray⟩) ∧ New w w' := by
  have HB := Lib.hid body_pli
  have HH := Lib.hid head_pli
  have c0 := hb.cell 0
  have hlt := hb.lt
  have hb0 := Blk.new w #[.slice none 0 0] 130
  have hn0 : New w (w.alloc (.cells #[.slice none 0 0] 130)) := (Turns.refl _ _).alloc _
  have HC := Lib.hid hb
  clear hb
  go_enter Tryz.func20, Tryz.ntmps20
  go_wp2_with fail
  generalize w.alloc (.cells #[.slice none 0 0] 130) = w0 at *
  have hw0 := Wrote.refl (fresh hb0)
  have hbl := HC.out.lt
  have hb1 : Blk w0 b #[pliV] 141 := hn0.blk HC.out (fun h => h)
  have H0 := Lib.hid (And.intro hw0 (And.intro hb1 hn0))
  clear hw0 hb1 hn0 hb0 c0
  go_loopw [11] (fun i' wx => ∃ (k : Nat) (ys : List UInt8), i' = .int .i64 k ∧ ((k = 0 ∧ ys = []) ∨ (k = 1 ∧ ys = pliL)) ∧ Wrote w0 wx w.heap.size none ys ∧ Blk wx b #[pliV] 141 ∧ New w wx) (fun i' _ => 1 - (intOf i').toNat)
  case atStart => exact ⟨0, [], rfl, .inl ⟨rfl, rfl⟩, H0.out.1, H0.out.2.1, H0.out.2.2⟩
  case round =>
    obtain ⟨k, ys, rfl, hk, hw, hb, hn⟩ := hrel
    rcases hk with ⟨rfl, rfl⟩ | ⟨rfl, rfl⟩
    · have c0 := hb.cell 0
      have HW := Lib.hid hw
      have HN := Lib.hid (And.intro hb hn)
      clear hw hb hn
      go_wp2_with fail
      refine (HH.out _).mono ?_
      rintro e w1 ⟨rfl, n1⟩
      go_wp2_with fail
      refine (HB.out _).mono ?_
      rintro e w2 ⟨rfl, n2⟩
      have n12 : New wr w2 := n1.trans (n2.mono (fun _ _ h => h.elim))
      have HW2 := Lib.hid (wnew HW.out n12)
      have HN2 := Lib.hid (And.intro (n12.blk HN.out.1 (fun h => h)) (HN.out.2.trans (n12.mono (fun _ _ h => h.elim))))
      obtain ⟨S8, hS8⟩ : ∃ S8, S8 = (⟨(be 4 1 ++ be 4 2).toArray⟩ : ByteArray) := ⟨_, rfl⟩
      have h8 : S8.size = 8 := by rw [hS8]; rfl
      have hl8 : S8.data.toList = be 4 1 ++ be 4 2 := by rw [hS8]
      rw [← hS8]
      have HL8 := Lib.hid hl8
      clear HW HN n1 n2 n12 HH HB hS8 hl8
      go_wp2_with fail
      refine (u8_two HW2.out 129 206 (by omega) (by omega) (by omega) (by omega) (by simp) _ rfl).mono ?_
      rintro e w3 ⟨rfl, hw3⟩
      have HW3 := Lib.hid hw3
      clear hw3 HW2 HN2
      go_wp2_with fail
      refine (u16_lit HW3.out 2 (by omega) (by omega) (by simp) _ rfl).mono ?_
      rintro e w4 ⟨rfl, hw4⟩
      have HW4 := Lib.hid hw4
      clear hw4 HW3
      go_wp2_with fail
      refine (put_lit HW4.out S8 (by rw [h8]; simp [be_length]) _ rfl).mono ?_
      rintro e w5 ⟨rfl, hw5⟩
      rw [HL8.out] at hw5
      have hys : [] ++ [bo 129, bo 206] ++ be 2 2 ++ (be 4 1 ++ be 4 2) = pliL := by decide
      rw [hys] at hw5
      have HW5 := Lib.hid hw5
      obtain ⟨_, _, ht5, _⟩ := hw5
      have hbF := ht5.blk H0.out.2.1 (by rintro (h | h); omega; cases h)
      have hnF : New w w5 := H0.out.2.2.trans (ht5.mono (fun k _ h => .inr (by rcases h with h | h; omega; cases h)))
      have HF := Lib.hid (And.intro hbF hnF)
      clear HW4 ht5 hbF hnF
      go_wp2
      go_roundw
      case rel => exact ⟨1, pliL, rfl, .inr ⟨rfl, rfl⟩, HW5.out, HF.out.1, HF.out.2⟩
      case measure => simp [intOf]
    · obtain ⟨q9, hb9, _, _⟩ := hw
      have HT := Lib.hid (Go.Proofs.YtcppibjllaablaaGreat.wr.text _ q9 _ wr hb9)
      clear hb hb9
      go_wp2_with fail
      refine HT.out.mono ?_
      rintro e w6 ⟨rfl, rfl⟩
      go_wp2
      go_ret
      exact ⟨rfl, hn⟩
end Go.Proofs.YtcppibjllaablaaGreat.top
