/-
  Parts of the proof, one behind the other.
-/
import Derived.Outline
import Derived.Deep.RegionLaw
import Derived.Deep.LoopGhost
import Derived.Deep.DeepCutAuto
import Derived.Deep.RegionHeld3
import Derived.Test.YtcppibjllaablaaGreatShelf
import Derived.Test.YtcppibjllaablaaGreatAntiphonSharesKa
import Derived.Test.YtcppibjllaablaaGreatAntiphonSharesKb
import Derived.Test.YtcppibjllaablaaGreatAntiphonSharesKc
/-
  vp8: Text.
-/
namespace Go.Proofs.YtcppibjllaablaaGreat.vp
open Go.RowKit mem rd wr oref sq
set_option linter.unusedVariables false

def bitV (b : Bool) (v : Int) : Int := if b then v else 0
theorem bit_any (b : Bool) (v : Int) (w : World) :
    Calls Tryz.prog 58 #[.bool b, .int .u8 v] w fun e w' => e = .returned (.int .u8 (bitV b v)) ∧ w = w' := by
  cases b
  · go_enter Tryz.func58, Tryz.ntmps58
    go_wp2
    go_ret
    exact ⟨rfl, rfl⟩
  · go_enter Tryz.func58, Tryz.ntmps58
    go_wp2
    go_ret
    exact ⟨rfl, rfl⟩
/-- a new block beside what is written -/
theorem Wrote.alloc {w wr : World} {p : Nat} {q : Option Nat} {ys : List UInt8} (h : Wrote w wr p q ys) (o : Obj) : Wrote w (wr.alloc o) p q ys := by
  obtain ⟨q1, hb, ht, hq⟩ := h
  exact ⟨q1, hb.turns ((Turns.refl (fun _ => False) wr).alloc o) (fun h => h) (fun _ _ h => h), ht.alloc o, hq⟩
theorem Wrote.new {w wr w' : World} {p : Nat} {q : Option Nat} {ys : List UInt8} (h : Wrote w wr p q ys) (k : New wr w') : Wrote w w' p q ys := by
  obtain ⟨q1, hb, ht, hq⟩ := h
  exact ⟨q1, hb.turns k (fun h => h) (fun _ _ h => h), ht.trans (k.mono (fun _ _ h => h.elim)), hq⟩
theorem Turns.drewN {S : Nat → Prop} {a w : World} (h : Turns S a w) (n : Nat) : Turns S a (w.drewN n) := ⟨h.os, h.tape, h.output, h.size, h.block⟩
theorem Wrote.drewN {w wr : World} {p : Nat} {q : Option Nat} {ys : List UInt8} (h : Wrote w wr p q ys) (n : Nat) : Wrote w (wr.drewN n) p q ys := by
  obtain ⟨q1, hb, ht, hq⟩ := h
  exact ⟨q1, hb, Turns.drewN ht n, hq⟩
theorem quiet_eq {P : Program} {f : FuncId} {args : Array Value} {w : World} {n : Nat} {v : Value}
    (h : Calls P f args (w.drewN n) fun e w' => e = .returned v ∧ w.drewN n = w') : Calls P f args (w.drewN n) fun e w'' => e = .returned v ∧ ∃ m, w'' = w.drewN m :=
  Calls.quiet_of_same (h.mono fun _ _ ⟨a, b⟩ => ⟨a, b.symm⟩)
theorem bitV_bd (b : Bool) (v : Int) (h : 0 ≤ v) : 0 ≤ bitV b v ∧ bitV b v ≤ v := by unfold bitV; split <;> omega

/-! ### what is written -/
def fb (d : D) : Int := d.part + bitV d.nr 32 + bitV d.st 16
def fg (d : D) : Int := bitV (decide (0 ≤ d.pic)) 128 + bitV (decide (0 ≤ d.lev)) 64 + bitV (decide (0 ≤ d.lay)) 32 + bitV (decide (0 ≤ d.key)) 16
def lk (d : D) : Int := (if 0 ≤ d.lay then d.lay * 64 + bitV d.sync 32 else 0) + (if 0 ≤ d.key then d.key else 0)
def txPic (d : D) : List UInt8 := if 0 ≤ d.pic then (if d.wide then be 2 (d.pic + 32768) else be 1 d.pic) else []
def txLev (d : D) : List UInt8 := if 0 ≤ d.lev then be 1 d.lev else []
def txLk (d : D) : List UInt8 := if 0 ≤ d.lay ∨ 0 ≤ d.key then be 1 (lk d) else []
def tx (d : D) : List UInt8 := if fg d = 0 then be 1 (fb d) else be 1 (fb d + 128) ++ be 1 (fg d) ++ txPic d ++ txLev d ++ txLk d

/-- the program's sums of bits -/
def fbE (part : Int) (nr st : Bool) : Int := bits .or .u8 (bits .or .u8 part (bitV nr 32)) (bitV st 16)
def fgE (a b c e : Bool) : Int := bits .or .u8 (bits .or .u8 (bits .or .u8 (bitV a 128) (bitV b 64)) (bitV c 32)) (bitV e 16)
theorem fgE_is : ∀ a b c e : Bool, fgE a b c e = bitV a 128 + bitV b 64 + bitV c 32 + bitV e 16 := by decide +kernel
theorem fbE_nat : ∀ n : Nat, n < 8 → ∀ nr st : Bool, fbE n nr st = n + bitV nr 32 + bitV st 16 := by decide +kernel
theorem fbE_is (part : Int) (h0 : 0 ≤ part) (h1 : part ≤ 7) (nr st : Bool) : fbE part nr st = part + bitV nr 32 + bitV st 16 := by
  have := fbE_nat part.toNat (by omega) nr st
  rwa [Int.toNat_of_nonneg h0] at this
theorem or128_nat : ∀ n : Nat, n < 128 → bits .or .u8 n 128 = n + 128 := by decide +kernel
theorem or128 (a : Int) (h0 : 0 ≤ a) (h1 : a < 128) : bits .or .u8 a 128 = a + 128 := by
  have := or128_nat a.toNat (by omega)
  rwa [Int.toNat_of_nonneg h0] at this

theorem or32768 (a : Int) (h0 : 0 ≤ a) (h1 : a ≤ 32767) : bits .or .u16 a 32768 = a + 32768 := by
  rw [u16_or a 32768 h0 (by omega) (by omega) (by omega)]
  have : (32768 : Int).toNat = 1 <<< 15 := by decide
  rw [this, Nat.or_comm, ← Nat.shiftLeft_add_eq_or_of_lt (show a.toNat < 2 ^ 15 by omega)]
  rw [Nat.shiftLeft_eq]
  omega
theorem orKey_nat : ∀ n : Nat, n < 32 → ∀ m : Nat, m < 8 → bits .or .u8 ((m : Int) * 32) n = m * 32 + n := by decide +kernel
theorem orKey (a b : Int) (h0 : 0 ≤ a) (h1 : a < 8) (h2 : 0 ≤ b) (h3 : b < 32) : bits .or .u8 (a * 32) b = a * 32 + b := by
  have := orKey_nat b.toNat (by omega) a.toNat (by omega)
  rwa [Int.toNat_of_nonneg h0, Int.toNat_of_nonneg h2] at this
theorem orSync_nat : ∀ n : Nat, n < 4 → ∀ b : Bool, bits .or .u8 ((n : Int) * 64) (bitV b 32) = n * 64 + bitV b 32 := by decide +kernel
theorem orSync (a : Int) (h0 : 0 ≤ a) (h1 : a < 4) (b : Bool) : bits .or .u8 (a * 64) (bitV b 32) = a * 64 + bitV b 32 := by
  have := orSync_nat a.toNat (by omega) b
  rwa [Int.toNat_of_nonneg h0] at this

/-- two numbers of one byte -/
theorem u8_lit2 {w wr : World} {p : Nat} {q : Option Nat} {ys : List UInt8} (h : Wrote w wr p q ys) (x y : Int) (hx : 0 ≤ x) (hx' : x ≤ 255) (hy : 0 ≤ y) (hy' : y ≤ 255) (hmax : ys.length + 2 ≤ 140737488355328) (B : Nat) (hB : wr.heap.size = B) :
    Calls Tryz.prog 50 #[.pointer (some ⟨p, 0, none⟩), .slice (some ⟨B, 0, none⟩) 2 2] (wr.alloc (.cells #[.int .u8 x, .int .u8 y] 5))
      fun en w' => en = .returned (.pointer (some ⟨p, 0, none⟩)) ∧ Wrote w w' p q (ys ++ (be 1 x ++ be 1 y)) := by
  have e1 : b8 (Go.Proofs.YtcppibjllaablaaGreat.wr.byteOf x) = .int .u8 x := by unfold b8; rw [byteOf_toNat]; rw [show x % 256 = x from by omega]
  have e3 : b8 (Go.Proofs.YtcppibjllaablaaGreat.wr.byteOf y) = .int .u8 y := by unfold b8; rw [byteOf_toNat]; rw [show y % 256 = y from by omega]
  have e2 : be 1 x ++ be 1 y = [Go.Proofs.YtcppibjllaablaaGreat.wr.byteOf x, Go.Proofs.YtcppibjllaablaaGreat.wr.byteOf y] := by simp [be]
  have := u8s_lit h [Go.Proofs.YtcppibjllaablaaGreat.wr.byteOf x, Go.Proofs.YtcppibjllaablaaGreat.wr.byteOf y] (by simp) (by simpa using hmax) B hB
  simp only [List.map_cons, List.map_nil, e1, e3] at this
  rw [e2]
  exact this

theorem tx_wide (d : D) (h : 0 ≤ d.pic) (hw : d.wide = true) : txPic d = be 2 (d.pic + 32768) := by unfold txPic; rw [if_pos h, if_pos hw]
theorem tx_narrow (d : D) (h : 0 ≤ d.pic) (hw : d.wide = false) : txPic d = be 1 d.pic := by unfold txPic; rw [if_pos h, hw]; rfl

set_option maxHeartbeats 1000000 in
theorem putPicture (d : D) (hv : V d) (hp : 0 ≤ d.pic) (p : Nat) (q : Option Nat) (ys : List UInt8) (w wr : World) (h : Wrote w wr p q ys) (hl : ys.length ≤ 1000) :
    Calls Tryz.prog 59 #[.agg (cells d), .pointer (some ⟨p, 0, none⟩)] wr fun e w' => e = .returned (.tuple #[]) ∧ Wrote w w' p q (ys ++ txPic d) := by
  have H1 := hv.pic
  have H2 := hv.narrow
  have HT1 := Lib.hid (tx_wide d hp)
  have HT2 := Lib.hid (tx_narrow d hp)
  obtain ⟨nr, st, part, pic, wide, lev, lay, sync, key⟩ := d
  simp only [cells] at *
  have HA := Lib.hid (Wrote.alloc h (.cells #[.bool nr, .bool st, .int .i64 part, .int .i64 pic, .bool wide, .int .i64 lev, .int .i64 lay, .bool sync, .int .i64 key] DT))
  cases wide
  · have hn := H2 rfl
    have hm := mask.mask7 pic
    rw [show pic % 128 = pic from by omega] at hm
    have hcv : IntKind.u8.wrap pic = pic := by rw [IntKind.wrap_u8]; omega
    have HE := Lib.hid (HT2.out rfl)
    clear H2 HT1 HT2
    go_enter Tryz.func59, Tryz.ntmps59
    go_wp2_with fail
    refine (u8_lit HA.out pic hp (by omega) (by omega) _ (by simp)).mono ?_
    rintro e w1 ⟨rfl, hw1⟩
    go_wp2
    go_end0
    rw [HE.out]
    exact ⟨rfl, hw1⟩
  · have HE := Lib.hid (HT1.out rfl)
    have hcv : IntKind.u16.wrap pic = pic := by rw [IntKind.wrap_u16]; omega
    have hor := or32768 pic hp H1.2
    clear H2 HT1 HT2
    go_enter Tryz.func59, Tryz.ntmps59
    go_wp2_with fail
    refine (u16_lit HA.out (pic + 32768) (by omega) (by omega) (by omega) _ (by simp)).mono ?_
    rintro e w1 ⟨rfl, hw1⟩
    go_wp2
    go_end0
    rw [HE.out]
    exact ⟨rfl, hw1⟩

theorem lkc (d : D) : lk d = (if 0 ≤ d.lay then d.lay * 64 + bitV d.sync 32 else 0) + (if 0 ≤ d.key then d.key else 0) := rfl

set_option maxHeartbeats 1000000 in
theorem layerAndKey (d : D) (hv : V d) (w : World) :
    Calls Tryz.prog 60 #[.agg (cells d)] w fun e w' => e = .returned (.int .u8 (lk d)) ∧ New w w' := by
  have HB := Lib.hid (fun b v w => bit_any b v w)
  have H1 := hv.lay
  have H2 := hv.key
  have HL := Lib.hid (lkc d)
  obtain ⟨nr, st, part, pic, wide, lev, lay, sync, key⟩ := d
  simp only [cells] at *
  have hn0 : New w (w.alloc (.cells #[.bool nr, .bool st, .int .i64 part, .int .i64 pic, .bool wide, .int .i64 lev, .int .i64 lay, .bool sync, .int .i64 key] DT)) := (Turns.refl _ _).alloc _
  have hb0 := Blk.new w #[.bool nr, .bool st, .int .i64 part, .int .i64 pic, .bool wide, .int .i64 lev, .int .i64 lay, .bool sync, .int .i64 key] DT
  have HN := Lib.hid hn0
  have HK := Lib.hid hb0
  clear hn0 hb0
  have hm2 := mask.mask2 lay
  have hm5 := mask.mask5 key
  go_enter Tryz.func60, Tryz.ntmps60
  go_upto_if 6 with fail
  generalize (w.alloc (.cells #[.bool nr, .bool st, .int .i64 part, .int .i64 pic, .bool wide, .int .i64 lev, .int .i64 lay, .bool sync, .int .i64 key] DT)) = w1 at *
  go_cut [3] (fun v wx => v = .int .u8 (if 0 ≤ lay then lay * 64 + bitV sync 32 else 0) ∧ New w wx ∧ Blk wx w.heap.size #[.bool nr, .bool st, .int .i64 part, .int .i64 pic, .bool wide, .int .i64 lev, .int .i64 lay, .bool sync, .int .i64 key] DT)
  case first =>
    obtain ⟨c0, c1, c2, c3, c4, c5, c6, c7, c8⟩ := cells9 HK.out
    by_cases h : 0 ≤ lay
    · have h' : decide (0 ≤ lay) = true := decide_eq_true h
      rw [show lay % 4 = lay from by omega] at hm2
      have hcv : IntKind.u8.wrap lay = lay := by rw [IntKind.wrap_u8]; omega
      have hsh : IntKind.u8.wrap (lay * 64) = lay * 64 := by rw [IntKind.wrap_u8]; omega
      have hor := orSync lay h (by omega) sync
      go_wp2_with fail
      go_quiet ((go_at_call 58; exact quiet_eq (HB.out _ _ _)))
      go_wp2
      go_meet
      case rel =>
        rw [if_pos (by omega)]
        exact ⟨rfl, Turns.drewN HN.out _, HK.out⟩
    · have h' : decide (0 ≤ lay) = false := decide_eq_false h
      go_wp2
      go_meet
      case rel =>
        rw [if_neg (by omega)]
        exact ⟨rfl, HN.out, HK.out⟩
  case rest =>
    obtain ⟨rfl, hn, hk⟩ := hcut
    obtain ⟨c0, c1, c2, c3, c4, c5, c6, c7, c8⟩ := cells9 hk
    clear hk HK HN
    obtain ⟨x, hx, hx0, hx1⟩ : ∃ x, (if 0 ≤ lay then lay * 64 + bitV sync 32 else 0) = x * 32 ∧ 0 ≤ x ∧ x < 8 := by
      by_cases h : 0 ≤ lay
      · rw [if_pos h]
        refine ⟨lay * 2 + bitV sync 1, ?_, ?_, ?_⟩ <;> cases sync <;> simp [bitV] <;> omega
      · rw [if_neg h]; exact ⟨0, by omega, by omega, by omega⟩
    rw [hx]
    have HX := Lib.hid hx
    clear hx
    by_cases h : 0 ≤ key
    · have h' : decide (0 ≤ key) = true := decide_eq_true h
      rw [show key % 32 = key from by omega] at hm5
      have hcv : IntKind.u8.wrap key = key := by rw [IntKind.wrap_u8]; omega
      have hor := orKey x key hx0 hx1 h (by omega)
      go_wp2
      go_ret
      rw [HL.out]
      simp only
      rw [HX.out, if_pos (by omega)]
      exact ⟨rfl, hn⟩
    · have h' : decide (0 ≤ key) = false := decide_eq_false h
      go_wp2
      go_ret
      rw [HL.out]
      simp only
      rw [HX.out, if_neg (by omega), Int.add_zero]
      exact ⟨rfl, hn⟩

theorem fg_is (d : D) : fgE (decide (0 ≤ d.pic)) (decide (0 ≤ d.lev)) (decide (0 ≤ d.lay)) (decide (0 ≤ d.key)) = fg d := fgE_is _ _ _ _
theorem fg_bd (d : D) : 0 ≤ fg d ∧ fg d ≤ 240 := by
  unfold fg
  have := bitV_bd (decide (0 ≤ d.pic)) 128 (by omega)
  have := bitV_bd (decide (0 ≤ d.lev)) 64 (by omega)
  have := bitV_bd (decide (0 ≤ d.lay)) 32 (by omega)
  have := bitV_bd (decide (0 ≤ d.key)) 16 (by omega)
  omega
theorem fb_bd (d : D) (h : V d) : 0 ≤ fb d ∧ fb d ≤ 55 := by
  unfold fb
  have := h.part
  have := bitV_bd d.nr 32 (by omega)
  have := bitV_bd d.st 16 (by omega)
  omega
theorem lk_bd (d : D) (h : V d) : 0 ≤ lk d ∧ lk d ≤ 255 := by
  unfold lk
  have := h.lay
  have := h.key
  have := bitV_bd d.sync 32 (by omega)
  split <;> split <;> omega

set_option maxHeartbeats 2000000 in
theorem text (d : D) (hv : V d) (w : World) :
    Calls Tryz.prog 19 #[.agg (cells d)] w fun e w' => e = .returned (.string ⟨(tx d).toArray⟩) ∧ New w w' := by
  have HB := Lib.hid (fun b v w => bit_any b v w)
  have hpart := hv.part
  have hfb := fb_bd d hv
  have hfg := fg_bd d
  have hlk := lk_bd d hv
  have HFG := Lib.hid (fg_is d)
  have HFB := Lib.hid (fbE_is d.part hpart.1 hpart.2 d.nr d.st)
  have HTX : Hid (tx d = if fg d = 0 then be 1 (fb d) else be 1 (fb d + 128) ++ be 1 (fg d) ++ txPic d ++ txLev d ++ txLk d) := Lib.hid rfl
  have HPut := Lib.hid (fun hp p q ys w wr h hl => putPicture d hv hp p q ys w wr h hl)
  have HLk := Lib.hid (fun w => layerAndKey d hv w)
  have HPic : Hid (txPic d = if 0 ≤ d.pic then (if d.wide then be 2 (d.pic + 32768) else be 1 d.pic) else []) := Lib.hid rfl
  have HLev : Hid (txLev d = if 0 ≤ d.lev then be 1 d.lev else []) := Lib.hid rfl
  have HTk : Hid (txLk d = if 0 ≤ d.lay ∨ 0 ≤ d.key then be 1 (lk d) else []) := Lib.hid rfl
  have HFb : Hid (fb d = d.part + bitV d.nr 32 + bitV d.st 16) := Lib.hid rfl
  have hlev := hv.lev
  have hpl : (txPic d).length ≤ 2 := by unfold txPic; split; split <;> simp [be_length]; simp
  have hll : (txLev d).length ≤ 1 := by unfold txLev; split <;> simp [be_length]
  generalize tx d = T at *
  generalize fb d = B at *
  generalize fg d = G at *
  generalize lk d = L at *
  generalize txPic d = T1 at *
  generalize txLev d = T2 at *
  generalize txLk d = T3 at *
  obtain ⟨nr, st, part, pic, wide, lev, lay, sync, key⟩ := d
  simp only [cells] at *
  have hm := mask.mask3 part
  rw [show part % 8 = part from by omega] at hm
  have hcv : IntKind.u8.wrap part = part := by rw [IntKind.wrap_u8]; omega
  have hb0 := (Blk.new w #[.bool nr, .bool st, .int .i64 part, .int .i64 pic, .bool wide, .int .i64 lev, .int .i64 lay, .bool sync, .int .i64 key] DT).alloc (.cells #[.slice none 0 0] 130)
  have hn0 : New w ((w.alloc (.cells #[.bool nr, .bool st, .int .i64 part, .int .i64 pic, .bool wide, .int .i64 lev, .int .i64 lay, .bool sync, .int .i64 key] DT)).alloc (.cells #[.slice none 0 0] 130)) := ((Turns.refl _ _).alloc _).alloc _
  have hw0 := Wrote.refl (fresh (Blk.new (w.alloc (.cells #[.bool nr, .bool st, .int .i64 part, .int .i64 pic, .bool wide, .int .i64 lev, .int .i64 lay, .bool sync, .int .i64 key] DT)) #[.slice none 0 0] 130))
  rw [World.size_alloc] at hw0
  have H0 := Lib.hid (And.intro hb0 (And.intro hn0 hw0))
  clear hb0 hn0 hw0
  go_enter Tryz.func19, Tryz.ntmps19
  go_wp2_with fail
  generalize (w.alloc (.cells #[.bool nr, .bool st, .int .i64 part, .int .i64 pic, .bool wide, .int .i64 lev, .int .i64 lay, .bool sync, .int .i64 key] DT)).alloc (.cells #[.slice none 0 0] 130) = w0 at *
  obtain ⟨c0, c1, c2, c3, c4, c5, c6, c7, c8⟩ := cells9 H0.out.1
  go_quiet ((go_at_call 58; exact quiet_eq (HB.out _ _ _)))
  obtain ⟨w1, hw1⟩ : ∃ x, x = w0.drewN nq := ⟨_, rfl⟩
  have H1 : Hid (Blk w1 w.heap.size #[.bool nr, .bool st, .int .i64 part, .int .i64 pic, .bool wide, .int .i64 lev, .int .i64 lay, .bool sync, .int .i64 key] DT ∧ Wrote w0 w1 (w.heap.size + 1) none []) := by subst hw1; exact Lib.hid ⟨H0.out.1, Wrote.drewN H0.out.2.2 _⟩
  rw [← hw1]
  clear hw1 c0 c1 c2 c3 c4 c5 c6 c7 c8
  obtain ⟨c0, c1, c2, c3, c4, c5, c6, c7, c8⟩ := cells9 H1.out.1
  go_wp2_with fail
  go_quiet ((go_at_call 58; exact quiet_eq (HB.out _ _ _)))
  obtain ⟨w2, hw2⟩ : ∃ x, x = w1.drewN nq := ⟨_, rfl⟩
  have H2 : Hid (Blk w2 w.heap.size #[.bool nr, .bool st, .int .i64 part, .int .i64 pic, .bool wide, .int .i64 lev, .int .i64 lay, .bool sync, .int .i64 key] DT ∧ Wrote w0 w2 (w.heap.size + 1) none []) := by subst hw2; exact Lib.hid ⟨H1.out.1, Wrote.drewN H1.out.2 _⟩
  rw [← hw2]
  clear hw2 c0 c1 c2 c3 c4 c5 c6 c7 c8 hm
  have hsec : bits .or .u8 (bits .or .u8 (bits .or .u8 (bitV (decide (0 ≤ pic)) 128) (bitV (decide (0 ≤ lev)) 64)) (bitV (decide (0 ≤ lay)) 32)) (bitV (decide (0 ≤ key)) 16) = G := HFG.out
  have hfst : bits .or .u8 (bits .or .u8 part (bitV nr 32)) (bitV st 16) = B := by rw [HFb.out]; exact HFB.out
  rw [hsec, hfst]
  clear hsec hfst hcv
  by_cases hg : G = 0
  · subst hg
    rw [if_pos rfl] at HTX
    go_wp2_with fail
    refine (u8_lit H2.out.2 B hfb.1 (by omega) (by simp) _ rfl).mono ?_
    rintro e w3 ⟨rfl, hw3⟩
    obtain ⟨q3, hb3, ht3, _⟩ := hw3
    have HT := Lib.hid (Go.Proofs.YtcppibjllaablaaGreat.wr.text _ q3 _ w3 hb3)
    have hN3 : New w w3 := H0.out.2.1.trans (ht3.mono (fun k _ h => .inr (by rcases h with h | h; omega; cases h)))
    clear hb3 ht3
    go_wp2_with fail
    refine (HT.out).mono ?_
    rintro e w4 ⟨rfl, rfl⟩
    go_wp2
    go_ret
    rw [HTX.out]
    exact ⟨rfl, hN3⟩
  · have hg1 : (G == 0) = false := by simp [hg]
    rw [if_neg hg] at HTX
    clear hg
    have hor := or128 B (by omega) (by omega)
    go_wp2_with fail
    refine (u8_lit2 H2.out.2 (B + 128) G (by omega) (by omega) (by omega) (by omega) (by simp) _ rfl).mono ?_
    rintro e w3 ⟨rfl, hw3⟩
    rw [List.nil_append] at hw3
    have hd3 : Blk w3 w.heap.size #[.bool nr, .bool st, .int .i64 part, .int .i64 pic, .bool wide, .int .i64 lev, .int .i64 lay, .bool sync, .int .i64 key] DT := (Wrote.turns hw3).blk H0.out.1 (by rintro (h | h); omega; cases h)
    have H3 := Lib.hid (And.intro hd3 hw3)
    clear hd3 hw3 hor
    obtain ⟨A, hA⟩ : ∃ A, A = be 1 (B + 128) ++ be 1 G := ⟨_, rfl⟩
    have hAl : A.length = 2 := by rw [hA]; simp [be_length]
    rw [← hA] at H3 HTX
    clear hA
    obtain ⟨c0, c1, c2, c3, c4, c5, c6, c7, c8⟩ := cells9 H3.out.1
    go_upto_if 50 with fail
    go_cut [] (fun wx => Blk wx w.heap.size #[.bool nr, .bool st, .int .i64 part, .int .i64 pic, .bool wide, .int .i64 lev, .int .i64 lay, .bool sync, .int .i64 key] DT ∧ Wrote w0 wx (w.heap.size + 1) none (A ++ T1))
    case first =>
      by_cases h : 0 ≤ pic
      · have h' : decide (0 ≤ pic) = true := decide_eq_true h
        go_wp2_with fail
        refine (HPut.out h _ _ _ _ _ H3.out.2 (by omega)).mono ?_
        rintro e w4 ⟨rfl, hw4⟩
        go_wp2
        go_meet
        case rel => exact ⟨(Wrote.turns hw4).blk H0.out.1 (by rintro (h | h); omega; cases h), hw4⟩
      · have h' : decide (0 ≤ pic) = false := decide_eq_false h
        rw [if_neg h] at HPic
        go_wp2
        go_meet
        case rel => rw [HPic.out, List.append_nil]; exact H3.out
    case rest =>
      have H4 := Lib.hid hcut
      clear H3 hcut HPic HPut c0 c1 c2 c3 c4 c5 c6 c7 c8
      obtain ⟨A2, hA⟩ : ∃ A', A' = A ++ T1 := ⟨_, rfl⟩
      have hA2 : A2.length ≤ 4 := by rw [hA, List.length_append]; omega
      rw [← hA] at H4 HTX
      clear hA
      obtain ⟨c0, c1, c2, c3, c4, c5, c6, c7, c8⟩ := cells9 H4.out.1
      go_upto_if 55 with fail
      go_cut [] (fun wx => Blk wx w.heap.size #[.bool nr, .bool st, .int .i64 part, .int .i64 pic, .bool wide, .int .i64 lev, .int .i64 lay, .bool sync, .int .i64 key] DT ∧ Wrote w0 wx (w.heap.size + 1) none (A2 ++ T2))
      case first =>
        by_cases h : 0 ≤ lev
        · have h' : decide (0 ≤ lev) = true := decide_eq_true h
          have hcv : IntKind.u8.wrap lev = lev := by rw [IntKind.wrap_u8]; omega
          rw [if_pos h] at HLev
          go_wp2_with fail
          refine (u8_lit H4.out.2 lev h hlev.2 (by omega) _ rfl).mono ?_
          rintro e w4 ⟨rfl, hw4⟩
          rw [← HLev.out] at hw4
          go_wp2
          go_meet
          case rel => exact ⟨(Wrote.turns hw4).blk H0.out.1 (by rintro (h | h); omega; cases h), hw4⟩
        · have h' : decide (0 ≤ lev) = false := decide_eq_false h
          rw [if_neg h] at HLev
          go_wp2
          go_meet
          case rel => rw [HLev.out, List.append_nil]; exact H4.out
      case rest =>
        have H5 := Lib.hid hcut
        clear H4 hcut HLev c0 c1 c2 c3 c4 c5 c6 c7 c8
        obtain ⟨A3, hA⟩ : ∃ A', A' = A2 ++ T2 := ⟨_, rfl⟩
        have hA3 : A3.length ≤ 5 := by rw [hA, List.length_append]; omega
        rw [← hA] at H5 HTX
        clear hA
        obtain ⟨c0, c1, c2, c3, c4, c5, c6, c7, c8⟩ := cells9 H5.out.1
        by_cases h1 : 0 ≤ lay
        · have h1' : decide (0 ≤ lay) = true := decide_eq_true h1
          rw [if_pos (.inl h1)] at HTk
          go_wp2_with fail
          refine (HLk.out _).mono ?_
          rintro e w4 ⟨rfl, hn4⟩
          have hw4 := Wrote.new H5.out.2 hn4
          go_wp2_with fail
          refine (u8_lit hw4 L hlk.1 hlk.2 (by omega) _ rfl).mono ?_
          rintro e w5 ⟨rfl, hw5⟩
          rw [← HTk.out] at hw5
          have HW := Lib.hid hw5
          clear hw4 hw5 hn4
          obtain ⟨q3, hb3, ht3, _⟩ := HW.out
          have HT := Lib.hid (Go.Proofs.YtcppibjllaablaaGreat.wr.text _ q3 _ _ hb3)
          have hN3 := H0.out.2.1.trans (ht3.mono (fun k _ h => .inr (by rcases h with h | h; omega; cases h)))
          have HN := Lib.hid hN3
          clear hb3 ht3 hN3
          go_wp2_with fail
          refine (HT.out).mono ?_
          rintro e w6 ⟨rfl, rfl⟩
          go_wp2
          go_ret
          rw [HTX.out]
          exact ⟨rfl, HN.out⟩
        · have h1' : decide (0 ≤ lay) = false := decide_eq_false h1
          by_cases h2 : 0 ≤ key
          · have h2' : decide (0 ≤ key) = true := decide_eq_true h2
            rw [if_pos (.inr h2)] at HTk
            go_wp2_with fail
            refine (HLk.out _).mono ?_
            rintro e w4 ⟨rfl, hn4⟩
            have hw4 := Wrote.new H5.out.2 hn4
            go_wp2_with fail
            refine (u8_lit hw4 L hlk.1 hlk.2 (by omega) _ rfl).mono ?_
            rintro e w5 ⟨rfl, hw5⟩
            rw [← HTk.out] at hw5
            have HW := Lib.hid hw5
            clear hw4 hw5 hn4
            obtain ⟨q3, hb3, ht3, _⟩ := HW.out
            have HT := Lib.hid (Go.Proofs.YtcppibjllaablaaGreat.wr.text _ q3 _ _ hb3)
            have hN3 := H0.out.2.1.trans (ht3.mono (fun k _ h => .inr (by rcases h with h | h; omega; cases h)))
            have HN := Lib.hid hN3
            clear hb3 ht3 hN3
            go_wp2_with fail
            refine (HT.out).mono ?_
            rintro e w6 ⟨rfl, rfl⟩
            go_wp2
            go_ret
            rw [HTX.out]
            exact ⟨rfl, HN.out⟩
          · have h2' : decide (0 ≤ key) = false := decide_eq_false h2
            rw [if_neg (by omega)] at HTk
            have HW : Hid (Wrote w0 wc (w.heap.size + 1) none (A3 ++ T3)) := by rw [HTk.out, List.append_nil]; exact Lib.hid H5.out.2
            obtain ⟨q3, hb3, ht3, _⟩ := HW.out
            have HT := Lib.hid (Go.Proofs.YtcppibjllaablaaGreat.wr.text _ q3 _ _ hb3)
            have hN3 := H0.out.2.1.trans (ht3.mono (fun k _ h => .inr (by rcases h with h | h; omega; cases h)))
            have HN := Lib.hid hN3
            clear hb3 ht3 hN3
            go_wp2_with fail
            refine (HT.out).mono ?_
            rintro e w6 ⟨rfl, rfl⟩
            go_wp2
            go_ret
            rw [HTX.out]
            exact ⟨rfl, HN.out⟩
end Go.Proofs.YtcppibjllaablaaGreat.vp

/-
  vp8: what is written is read back; a beginning is not; what is read may be. No program.
-/
namespace Go.Proofs.YtcppibjllaablaaGreat.vp
open Go.RowKit mem rd wr oref sq
set_option linter.unusedVariables false

theorem be1_bd (x : Int) (h0 : 0 ≤ x) (h1 : x ≤ 255) (r : List UInt8) (e : Int) : vn 1 (be 1 x ++ r, e) = x := vn_be 1 x h0 (by omega) r e
theorem be2_first (x : Int) (h0 : 0 ≤ x) (h1 : x ≤ 65535) : be 2 x = be 1 (x / 256) ++ be 1 (x % 256) := by
  have hb : ∀ a b : Int, a % 256 = b % 256 → Go.Proofs.YtcppibjllaablaaGreat.wr.byteOf a = Go.Proofs.YtcppibjllaablaaGreat.wr.byteOf b := fun a b h => by unfold Go.Proofs.YtcppibjllaablaaGreat.wr.byteOf; rw [h]
  simp only [be, List.cons_append, List.nil_append]
  rw [hb (x / 256 ^ 1) (x / 256 / 256 ^ 0) (by omega), hb (x / 256 ^ 0) (x % 256 / 256 ^ 0) (by omega)]

theorem fg_bits : ∀ a b c e : Bool, (decide (128 ≤ bitV a 128 + bitV b 64 + bitV c 32 + bitV e 16) = a) ∧ (decide ((bitV a 128 + bitV b 64 + bitV c 32 + bitV e 16) / 64 % 2 = 1) = b)
    ∧ (decide ((bitV a 128 + bitV b 64 + bitV c 32 + bitV e 16) / 32 % 2 = 1) = c) ∧ (decide ((bitV a 128 + bitV b 64 + bitV c 32 + bitV e 16) / 16 % 2 = 1) = e)
    ∧ (decide ((bitV a 128 + bitV b 64 + bitV c 32 + bitV e 16) / 16 % 4 = 0) = (!c && !e)) ∧ (decide (bitV a 128 + bitV b 64 + bitV c 32 + bitV e 16 = 0) = (!a && !b && !c && !e)) := by decide +kernel
theorem fg_pic (d : D) : 128 ≤ fg d ↔ 0 ≤ d.pic := by
  have := (fg_bits (decide (0 ≤ d.pic)) (decide (0 ≤ d.lev)) (decide (0 ≤ d.lay)) (decide (0 ≤ d.key))).1
  exact decide_eq_decide.1 this
theorem fg_lev (d : D) : fg d / 64 % 2 = 1 ↔ 0 ≤ d.lev := by
  have := (fg_bits (decide (0 ≤ d.pic)) (decide (0 ≤ d.lev)) (decide (0 ≤ d.lay)) (decide (0 ≤ d.key))).2.1
  exact decide_eq_decide.1 this
theorem fg_lay (d : D) : fg d / 32 % 2 = 1 ↔ 0 ≤ d.lay := by
  have := (fg_bits (decide (0 ≤ d.pic)) (decide (0 ≤ d.lev)) (decide (0 ≤ d.lay)) (decide (0 ≤ d.key))).2.2.1
  exact decide_eq_decide.1 this
theorem fg_key (d : D) : fg d / 16 % 2 = 1 ↔ 0 ≤ d.key := by
  have := (fg_bits (decide (0 ≤ d.pic)) (decide (0 ≤ d.lev)) (decide (0 ≤ d.lay)) (decide (0 ≤ d.key))).2.2.2.1
  exact decide_eq_decide.1 this
theorem fg_no (d : D) : fg d / 16 % 4 = 0 ↔ ¬ (0 ≤ d.lay ∨ 0 ≤ d.key) := by
  have := (fg_bits (decide (0 ≤ d.pic)) (decide (0 ≤ d.lev)) (decide (0 ≤ d.lay)) (decide (0 ≤ d.key))).2.2.2.2.1
  have e : (!decide (0 ≤ d.lay) && !decide (0 ≤ d.key)) = decide (¬ (0 ≤ d.lay ∨ 0 ≤ d.key)) := by
    by_cases h1 : 0 ≤ d.lay <;> by_cases h2 : 0 ≤ d.key <;> simp [h1, h2]
  rw [e] at this
  exact decide_eq_decide.1 this
theorem fg_zero (d : D) (h : fg d = 0) : d.pic < 0 ∧ d.lev < 0 ∧ d.lay < 0 ∧ d.key < 0 := by
  have h1 := fg_pic d
  have h2 := fg_lev d
  have h3 := fg_lay d
  have h4 := fg_key d
  rw [h] at h1 h2 h3 h4
  omega

theorem st_tk1 (d : D) (hv : V d) (x : D) (hx : x.pic = -1) (hx2 : x.wide = false) (X : List UInt8) : tk1S (fg d) (txPic d ++ X, 0) = (X, 0) ∧ tk1D (fg d) x (txPic d ++ X, 0) = { x with pic := d.pic, wide := d.wide } := by
  unfold tk1S tk1D txPic
  have hp := hv.pic
  by_cases h : 0 ≤ d.pic
  · rw [if_pos ((fg_pic d).2 h), if_pos ((fg_pic d).2 h), if_pos h]
    by_cases hw : d.wide = true
    · rw [if_pos hw]
      have e2 := be2_first (d.pic + 32768) (by omega) (by omega)
      have hv1 : vn 1 (be 2 (d.pic + 32768) ++ X, 0) = (d.pic + 32768) / 256 := by rw [e2, List.append_assoc]; exact be1_bd _ (by omega) (by omega) _ _
      have hn1 : nx 1 (be 2 (d.pic + 32768) ++ X, 0) = (be 1 ((d.pic + 32768) % 256) ++ X, 0) := by rw [e2, List.append_assoc]; exact nx_be 1 _ _ _
      unfold picS picV picW
      rw [hv1, hn1, be1_bd _ (by omega) (by omega), nx_be, if_pos (by omega), if_pos (by omega), b128_is _ (by omega) (by omega), decide_eq_true (by omega), hw]
      exact ⟨rfl, by congr 1; omega⟩
    · rw [if_neg hw]
      have hn := hv.narrow (by simpa using hw)
      unfold picS picV picW
      rw [be1_bd _ (by omega) (by omega), nx_be, if_neg (by omega), if_neg (by omega), b128_is _ (by omega) (by omega), decide_eq_false (by omega)]
      refine ⟨rfl, ?_⟩
      rw [show d.wide = false from by simpa using hw]
  · rw [if_neg (fun h' => h ((fg_pic d).1 h')), if_neg (fun h' => h ((fg_pic d).1 h')), if_neg h]
    refine ⟨rfl, ?_⟩
    have hw : d.wide = false := by
      cases hw : d.wide
      · rfl
      · exact absurd (hv.wide hw) h
    rw [hw, show d.pic = -1 from by omega, ← hx, ← hx2]

theorem st_tk2 (d : D) (hv : V d) (x : D) (hx : x.lev = -1) (X : List UInt8) : tk2S (fg d) (txLev d ++ X, 0) = (X, 0) ∧ tk2D (fg d) x (txLev d ++ X, 0) = { x with lev := d.lev } := by
  unfold tk2S tk2D txLev
  have hp := hv.lev
  by_cases h : 0 ≤ d.lev
  · rw [if_pos ((fg_lev d).2 h), if_pos ((fg_lev d).2 h), if_pos h, be1_bd _ h (by omega), nx_be]
    exact ⟨rfl, rfl⟩
  · rw [if_neg (fun h' => h ((fg_lev d).1 h')), if_neg (fun h' => h ((fg_lev d).1 h')), if_neg h]
    refine ⟨rfl, ?_⟩
    rw [show d.lev = -1 from by omega, ← hx]

theorem st_tkL (d : D) (hv : V d) (x : D) (hx : x.lay = -1) (hx2 : x.sync = false) (hx3 : x.key = -1) (X : List UInt8) :
    tkLS (fg d) (txLk d ++ X, 0) = (X, 0) ∧ tkLD (fg d) x (txLk d ++ X, 0) = { x with lay := d.lay, sync := d.sync, key := d.key } := by
  unfold tkLS tkLD txLk
  have hp := hv.lay
  have hk := hv.key
  have hb := lk_bd d hv
  have hs : d.lay < 0 → d.sync = false := by
    intro h
    cases hs : d.sync
    · rfl
    · have := hv.sync hs; omega
  by_cases h : 0 ≤ d.lay ∨ 0 ≤ d.key
  · rw [if_neg (fun h' => (fg_no d).1 h' h), if_neg (fun h' => (fg_no d).1 h' h), if_pos h, be1_bd _ hb.1 hb.2, nx_be]
    refine ⟨rfl, ?_⟩
    unfold tk4D tk3D
    have b32l := b32_is (lk d) hb.1 hb.2
    by_cases h1 : 0 ≤ d.lay
    · rw [if_pos ((fg_lay d).2 h1), b32l]
      by_cases h2 : 0 ≤ d.key
      · rw [if_pos ((fg_key d).2 h2)]
        have e : lk d = d.lay * 64 + bitV d.sync 32 + d.key := by unfold lk; rw [if_pos h1, if_pos h2]
        rw [e]
        cases hsy : d.sync
        · have : decide ((d.lay * 64 + bitV false 32 + d.key) / 32 % 2 = 1) = false := decide_eq_false (by simp [bitV]; omega)
          rw [this]
          simp only [bitV, Bool.false_eq_true, if_false]
          congr 1 <;> omega
        · have : decide ((d.lay * 64 + bitV true 32 + d.key) / 32 % 2 = 1) = true := decide_eq_true (by simp [bitV]; omega)
          rw [this]
          simp only [bitV, if_true]
          congr 1 <;> omega
      · rw [if_neg (fun h' => h2 ((fg_key d).1 h'))]
        have e : lk d = d.lay * 64 + bitV d.sync 32 + 0 := by unfold lk; rw [if_pos h1, if_neg h2]
        rw [e]
        cases hsy : d.sync
        · have : decide ((d.lay * 64 + bitV false 32 + 0) / 32 % 2 = 1) = false := decide_eq_false (by simp [bitV]; omega)
          rw [this]
          simp only [bitV, Bool.false_eq_true, if_false]
          rw [show d.key = -1 from by omega, ← hx3]
          congr 1; omega
        · have : decide ((d.lay * 64 + bitV true 32 + 0) / 32 % 2 = 1) = true := decide_eq_true (by simp [bitV]; omega)
          rw [this]
          simp only [bitV, if_true]
          rw [show d.key = -1 from by omega, ← hx3]
          congr 1; omega
    · have h2 : 0 ≤ d.key := by omega
      rw [if_neg (fun h' => h1 ((fg_lay d).1 h')), if_pos ((fg_key d).2 h2)]
      have e : lk d = 0 + d.key := by unfold lk; rw [if_neg h1, if_pos h2]
      rw [e, hs (by omega), show d.lay = -1 from by omega, ← hx, ← hx2]
      congr 1; omega
  · rw [if_pos ((fg_no d).2 h), if_pos ((fg_no d).2 h), if_neg h]
    refine ⟨rfl, ?_⟩
    rw [show d.lay = x.lay from by omega, show d.key = x.key from by omega, hs (by omega), ← hx2]

theorem d0_fb (d : D) (hv : V d) (c : Int) (hc : c = 0 ∨ c = 128) : d0 (fb d + c) = { plain with nr := d.nr, st := d.st, part := d.part } := by
  have hp := hv.part
  have hb := fb_bd d hv
  unfold d0
  rw [b32_is _ (by omega) (by omega), b16_is _ (by omega) (by omega)]
  unfold fb
  rcases hc with rfl | rfl
  all_goals
    cases hn : d.nr <;> cases hs : d.st
    all_goals
      simp only [bitV, Bool.false_eq_true, if_false, if_true]
      congr 1
      · first | exact decide_eq_true (by omega) | exact decide_eq_false (by omega)
      · first | exact decide_eq_true (by omega) | exact decide_eq_false (by omega)
      · omega

/-- what is written is read back -/
theorem parse_text (d : D) (hv : V d) (r : List UInt8) : pS (tx d ++ r, 0) = (r, 0) ∧ pD (tx d ++ r, 0) = d := by
  have hb := fb_bd d hv
  have hg := fg_bd d
  unfold tx
  by_cases h0 : fg d = 0
  · rw [if_pos h0]
    obtain ⟨h1, h2, h3, h4⟩ := fg_zero d h0
    unfold pS pD
    rw [be1_bd _ (by omega) (by omega), nx_be, if_neg (by omega), if_neg (by omega)]
    have e0 := d0_fb d hv 0 (.inl rfl)
    rw [Int.add_zero] at e0
    rw [e0]
    refine ⟨rfl, ?_⟩
    have hw : d.wide = false := by
      cases hw : d.wide
      · rfl
      · have := hv.wide hw; omega
    have hs : d.sync = false := by
      cases hs : d.sync
      · rfl
      · have := hv.sync hs; omega
    have hp := hv.pic
    have hl := hv.lev
    have hy := hv.lay
    have hk := hv.key
    obtain ⟨nr, st, part, pic, wide, lev, lay, sync, key⟩ := d
    simp only at *
    subst hw hs
    unfold plain
    simp only [D.mk.injEq, true_and]
    omega
  · rw [if_neg h0]
    simp only [List.append_assoc]
    unfold pS pD
    rw [be1_bd _ (by omega) (by omega), nx_be, be1_bd _ hg.1 (by omega), nx_be, if_pos (by omega), if_pos (by omega), d0_fb d hv 128 (.inr rfl)]
    unfold tkS tkD
    have s1 := st_tk1 d hv { plain with nr := d.nr, st := d.st, part := d.part } rfl rfl (txLev d ++ (txLk d ++ r))
    rw [s1.1, s1.2]
    have s2 := st_tk2 d hv { ({ plain with nr := d.nr, st := d.st, part := d.part } : D) with pic := d.pic, wide := d.wide } rfl (txLk d ++ r)
    rw [s2.1, s2.2]
    have s3 := st_tkL d hv { ({ ({ plain with nr := d.nr, st := d.st, part := d.part } : D) with pic := d.pic, wide := d.wide } : D) with lev := d.lev } rfl rfl rfl r
    rw [s3.1, s3.2]
    exact ⟨rfl, rfl⟩

/-! ### a beginning of a descriptor -/
theorem picS_one {s : St} (h : s.2 = 1) : (picS s).2 = 1 := by
  unfold picS; split
  · exact nx_one _ (nx_one _ h)
  · exact nx_one _ h
theorem tk1S_one (f : Int) {s : St} (h : s.2 = 1) : (tk1S f s).2 = 1 := by unfold tk1S; split; exact picS_one h; exact h
theorem tk2S_one (f : Int) {s : St} (h : s.2 = 1) : (tk2S f s).2 = 1 := by unfold tk2S; split; exact nx_one _ h; exact h
theorem tkLS_one (f : Int) {s : St} (h : s.2 = 1) : (tkLS f s).2 = 1 := by unfold tkLS; split; exact h; exact nx_one _ h
theorem tkS_one (f : Int) {s : St} (h : s.2 = 1) : (tkS f s).2 = 1 := tkLS_one f (tk2S_one f (tk1S_one f h))
theorem short_pic {s s' : St} (h : Short s s') : (picS s').2 = 1 ∨ Short (picS s) (picS s') := by
  rcases short_nx 1 h with h1 | ⟨h1, _, h2⟩
  · left
    unfold picS; split
    · exact nx_one _ h1
    · exact h1
  · unfold picS
    rw [h1]
    split
    · rcases short_nx 1 h2 with h3 | ⟨_, _, h3⟩
      · exact .inl h3
      · exact .inr h3
    · exact .inr h2
theorem short_tk1 (f : Int) {s s' : St} (h : Short s s') : (tk1S f s').2 = 1 ∨ Short (tk1S f s) (tk1S f s') := by
  unfold tk1S; split
  · exact short_pic h
  · exact .inr h
theorem short_tk2 (f : Int) {s s' : St} (h : Short s s') : (tk2S f s').2 = 1 ∨ Short (tk2S f s) (tk2S f s') := by
  unfold tk2S; split
  · rcases short_nx 1 h with h3 | ⟨_, _, h3⟩
    · exact .inl h3
    · exact .inr h3
  · exact .inr h
theorem short_tkL (f : Int) {s s' : St} (h : Short s s') : (tkLS f s').2 = 1 ∨ Short (tkLS f s) (tkLS f s') := by
  unfold tkLS; split
  · exact .inr h
  · rcases short_nx 1 h with h3 | ⟨_, _, h3⟩
    · exact .inl h3
    · exact .inr h3
theorem short_tk (f : Int) {s s' : St} (h : Short s s') : (tkS f s').2 = 1 ∨ Short (tkS f s) (tkS f s') := by
  unfold tkS
  rcases short_tk1 f h with h1 | h1
  · exact .inl (tkLS_one f (tk2S_one f h1))
  · rcases short_tk2 f h1 with h2 | h2
    · exact .inl (tkLS_one f h2)
    · exact short_tkL f h2
theorem short_p {s s' : St} (h : Short s s') : (pS s').2 = 1 ∨ Short (pS s) (pS s') := by
  rcases short_nx 1 h with h1 | ⟨h1, _, h2⟩
  · left
    unfold pS; split
    · exact tkS_one _ (nx_one _ h1)
    · exact h1
  · unfold pS
    rw [h1]
    split
    · rcases short_nx 1 h2 with h3 | ⟨h3, _, h4⟩
      · exact .inl (tkS_one _ h3)
      · rw [h3]; exact short_tk _ h4
    · exact .inr h2
/-- a beginning is none -/
theorem parse_cut (d : D) (hv : V d) (n : Nat) (hn : n < (tx d).length) : (pS ((tx d).take n, 0)).2 = 1 := by
  have hp := (parse_text d hv []).1
  rw [List.append_nil] at hp
  rcases short_p (s := (tx d, 0)) (s' := ((tx d).take n, 0)) ⟨rfl, rfl, (tx d).drop n, by intro h; have := congrArg List.length h; simp at this; omega, (List.take_append_drop _ _).symm⟩ with h | ⟨_, _, t, ht, h⟩
  · exact h
  · rw [hp] at h
    simp at h
    exact absurd h.2 ht

/-! ### what is read -/
theorem d0_V (a : Int) (h0 : 0 ≤ a) (h1 : a ≤ 255) : V (d0 a) := by
  unfold d0 plain
  exact ⟨by simp only; omega, by simp only; omega, by simp only; omega, by simp only; omega, by simp only; omega, by simp, by simp, by simp⟩
theorem picV_bd (s : St) : 0 ≤ picV s ∧ picV s ≤ 32767 ∧ (picW s = false → picV s ≤ 127) := by
  unfold picV picW
  have h1 := vn_bd1 s
  have h2 := vn_bd1 (nx 1 s)
  rw [b128_is _ h1.1 h1.2]
  split
  · refine ⟨by omega, by omega, ?_⟩
    intro h; rw [decide_eq_false_iff_not] at h; omega
  · exact ⟨by omega, by omega, fun _ => by omega⟩
theorem tk1_V (f : Int) (d : D) (s : St) (hv : V d) : V (tk1D f d s) := by
  unfold tk1D; split
  · have := picV_bd s
    exact ⟨hv.part, by simp only; omega, hv.lev, hv.lay, hv.key, fun _ => by simp only; omega, this.2.2, hv.sync⟩
  · exact hv
theorem tk2_V (f : Int) (d : D) (s : St) (hv : V d) : V (tk2D f d s) := by
  unfold tk2D; split
  · have := vn_bd1 s
    exact ⟨hv.part, hv.pic, by simp only; omega, hv.lay, hv.key, hv.wide, hv.narrow, hv.sync⟩
  · exact hv
theorem tkL_V (f : Int) (d : D) (s : St) (hv : V d) : V (tkLD f d s) := by
  unfold tkLD; split
  · exact hv
  · have hb := vn_bd1 s
    generalize vn 1 s = b at *
    have h3 : V (tk3D f b d) := by
      unfold tk3D; split
      · exact ⟨hv.part, hv.pic, hv.lev, by simp only; omega, hv.key, hv.wide, hv.narrow, fun _ => by simp only; omega⟩
      · exact hv
    unfold tk4D; split
    · exact ⟨h3.part, h3.pic, h3.lev, h3.lay, by simp only; omega, h3.wide, h3.narrow, h3.sync⟩
    · exact h3
theorem p_V (s : St) : V (pD s) := by
  have h1 := vn_bd1 s
  unfold pD; split
  · exact tkL_V _ _ _ (tk2_V _ _ _ (tk1_V _ _ _ (d0_V _ h1.1 h1.2)))
  · exact d0_V _ h1.1 h1.2

/-! ### how long it is -/
theorem tx_len (d : D) : (tx d).length = if fg d = 0 then 1 else 2 + (txPic d).length + (txLev d).length + (txLk d).length := by
  unfold tx; split
  · simp [be_length]
  · simp only [List.length_append, be_length]
theorem len_pic (s : St) (h : (picS s).2 = 0) : (picS s).1.length + (if picW s then 2 else 1) = s.1.length := by
  have hb := vn_bd1 s
  unfold picS picW at *
  rw [b128_is _ hb.1 hb.2]
  by_cases h1 : 128 ≤ vn 1 s
  · rw [if_pos h1] at h ⊢
    rw [decide_eq_true h1]
    have a := nx_count h
    have b := nx_count (nx_no h)
    simp only [if_true]
    omega
  · rw [if_neg h1] at h ⊢
    rw [decide_eq_false h1]
    have a := nx_count h
    simp only [Bool.false_eq_true, if_false]
    omega
theorem picS_no {s : St} (h : (picS s).2 = 0) : s.2 = 0 := by
  unfold picS at h; split at h
  · exact nx_no (nx_no h)
  · exact nx_no h
theorem tk1_no (f : Int) {s : St} (h : (tk1S f s).2 = 0) : s.2 = 0 := by unfold tk1S at h; split at h; exact picS_no h; exact h
theorem tk2_no (f : Int) {s : St} (h : (tk2S f s).2 = 0) : s.2 = 0 := by unfold tk2S at h; split at h; exact nx_no h; exact h
theorem tkL_no (f : Int) {s : St} (h : (tkLS f s).2 = 0) : s.2 = 0 := by unfold tkLS at h; split at h; exact h; exact nx_no h

theorem len_tk (f : Int) (hf0 : 0 ≤ f) (hf1 : f ≤ 255) (d : D) (hp : d.pic < 0) (hl : d.lev < 0) (hy : d.lay < 0) (hk : d.key < 0) (s : St) (h : (tkS f s).2 = 0) :
    (tkS f s).1.length + ((txPic (tkD f d s)).length + (txLev (tkD f d s)).length + (txLk (tkD f d s)).length) ≤ s.1.length := by
  unfold tkS at *
  have n2 := tkL_no f h
  have n1 := tk2_no f n2
  -- the picture
  have e1 : (txPic (tkD f d s)).length + (tk1S f s).1.length ≤ s.1.length := by
    have : txPic (tkD f d s) = txPic (tk1D f d s) := by
      unfold tkD tkLD tk4D tk3D tk2D
      repeat (first | rfl | split)
    rw [this]
    unfold tk1D tk1S at *
    split
    · rename_i h1
      rw [if_pos h1] at n1
      have := len_pic s n1
      unfold txPic
      simp only
      split
      · cases hw : picW s
        · rw [hw] at this; simp [be_length] at this ⊢; omega
        · rw [hw] at this; simp [be_length] at this ⊢; omega
      · simp; split at this <;> omega
    · unfold txPic; rw [if_neg (by omega)]; simp
  have e2 : (txLev (tkD f d s)).length + (tk2S f (tk1S f s)).1.length ≤ (tk1S f s).1.length := by
    have hl1 : (tk1D f d s).lev < 0 := by unfold tk1D; split <;> exact hl
    have : txLev (tkD f d s) = txLev (tk2D f (tk1D f d s) (tk1S f s)) := by
      unfold tkD tkLD tk4D tk3D
      repeat (first | rfl | split)
    rw [this]
    unfold tk2D tk2S at *
    split
    · rename_i h1
      rw [if_pos h1] at n2
      have := nx_count n2
      unfold txLev
      simp only
      split
      · simp [be_length]; omega
      · simp; omega
    · unfold txLev; rw [if_neg (by omega)]; simp
  have e3 : (txLk (tkD f d s)).length + (tkLS f (tk2S f (tk1S f s))).1.length ≤ (tk2S f (tk1S f s)).1.length := by
    have hy1 : (tk2D f (tk1D f d s) (tk1S f s)).lay < 0 := by unfold tk2D tk1D; split <;> split <;> exact hy
    have hk1 : (tk2D f (tk1D f d s) (tk1S f s)).key < 0 := by unfold tk2D tk1D; split <;> split <;> exact hk
    unfold tkD tkLD tkLS at *
    split
    · unfold txLk; rw [if_neg (by omega)]; simp
    · rename_i h1
      rw [if_neg h1] at h
      have := nx_count h
      unfold txLk
      split
      · simp [be_length]; omega
      · simp; omega
  omega

theorem len_p (s : St) (h : (pS s).2 = 0) : (tx (pD s)).length + (pS s).1.length ≤ s.1.length := by
  have hb := vn_bd1 s
  have hf := vn_bd1 (nx 1 s)
  rw [tx_len]
  unfold pS pD at *
  split
  · rename_i h1
    rw [if_pos h1] at h
    have n3 := tk1_no _ (tk2_no _ (tkL_no _ h))
    have c2 := nx_count n3
    have c1 := nx_count (nx_no n3)
    have := len_tk (vn 1 (nx 1 s)) hf.1 hf.2 (d0 (vn 1 s)) (by show (-1 : Int) < 0; omega) (by show (-1 : Int) < 0; omega) (by show (-1 : Int) < 0; omega) (by show (-1 : Int) < 0; omega) _ h
    split <;> omega
  · rename_i h1
    rw [if_neg h1] at h
    have c1 := nx_count h
    have : fg (d0 (vn 1 s)) = 0 := by unfold fg d0 plain; simp [bitV]
    rw [if_pos this]
    omega
end Go.Proofs.YtcppibjllaablaaGreat.vp

/-
  rtp's packets: what is read, as plain functions. No program.
-/
namespace Go.Proofs.YtcppibjllaablaaGreat.rp
open Go.RowKit mem rd oref sq
set_option linter.unusedVariables false

structure P where
  mrk : Bool
  typ : Int
  seq : Int
  time : Int
  ssrc : Int
  cs : List Int
  ext : Bool
  prof : Int
  data : ByteArray
  pay : ByteArray
  pad : Int

def nob : ByteArray := ⟨#[]⟩
/-- a packet's cells; v: its sources -/
def pc (p : P) (v : Value) : Array Value := #[.bool p.mrk, .int .u8 p.typ, .int .u16 p.seq, .int .u32 p.time, .int .u32 p.ssrc, v, .bool p.ext, .int .u16 p.prof, .string p.data, .string p.pay, .int .i64 p.pad]
def zero : P := ⟨false, 0, 0, 0, 0, [], false, 0, nob, nob, 0⟩

/-! ### reading -/
def lst (l : List UInt8) : ByteArray := ⟨l.toArray⟩
/-- the extension -/
def exS1 (s : St) : St := nx 2 (nx 2 s)
def exN (s : St) : Nat := (4 * vn 2 (nx 2 s)).toNat
def exS (s : St) : St := nx (exN s) (exS1 s)
def exP (p : P) (s : St) : P := { p with ext := true, prof := vn 2 s, data := lst (bn (exN s) (exS1 s)) }
/-- padding: the number, the error -/
def lastB (l : List UInt8) : Int := ((l.getLast?.getD 0).toNat : Int)
def pdN (l : List UInt8) : Int := if l = [] then 0 else if lastB l = 0 then 0 else if (l.length : Int) < lastB l then 0 else lastB l
def pdE (l : List UInt8) : Int := if l = [] then 1 else if lastB l = 0 then 2 else if (l.length : Int) < lastB l then 1 else 0
theorem pdN_bd (l : List UInt8) : 0 ≤ pdN l ∧ pdN l ≤ l.length ∧ pdN l ≤ 255 := by
  unfold pdN
  have h : 0 ≤ lastB l ∧ lastB l ≤ 255 := by
    unfold lastB
    have := (l.getLast?.getD 0).toNat_lt
    omega
  split
  · omega
  · split
    · omega
    · split <;> omega
/-- the sources -/
def it (s : St) : Nat → St
  | 0 => s
  | k + 1 => nx 4 (it s k)
def csL (s : St) (n : Nat) : List Int := (List.range n).map fun i => vn 4 (it s i)
theorem csL_succ (s : St) (n : Nat) : csL s (n + 1) = csL s n ++ [vn 4 (it s n)] := by unfold csL; rw [List.range_succ, List.map_append]; rfl
theorem csL_len (s : St) (n : Nat) : (csL s n).length = n := by unfold csL; simp
theorem it_ok {s : St} (h : Ok s) (n : Nat) : Ok (it s n) := by
  induction n with
  | zero => exact h
  | succ n ih => exact nx_ok 4 ih
theorem it_len (s : St) (n : Nat) : (it s n).1.length ≤ s.1.length := by
  induction n with
  | zero => exact Nat.le_refl _
  | succ n ih => exact Nat.le_trans (nx_len _ _) ih

/-- behind the first two bytes a, b: the packet so far, and what is left -/
def hdP (b : Int) (s : St) (n : Nat) : P := { zero with mrk := vp.b128 b, typ := b % 128, seq := vn 2 s, time := vn 4 (nx 2 s), ssrc := vn 4 (nx 4 (nx 2 s)), cs := csL (nx 4 (nx 4 (nx 2 s))) n }
def hdS (s : St) (n : Nat) : St := it (nx 4 (nx 4 (nx 2 s))) n
def xtP (a : Int) (p : P) (s : St) : P := if a / 16 % 2 = 1 then exP p s else p
def xtS (a : Int) (s : St) : St := if a / 16 % 2 = 1 then exS s else s
def pyP (a : Int) (p : P) (s : St) : P := if a / 32 % 2 = 1 then { p with pay := lst (s.1.take (s.1.length - (pdN s.1).toNat)), pad := pdN s.1 } else { p with pay := lst s.1 }
def pyE (a : Int) (s : St) : Int := if a / 32 % 2 = 1 then (fl (pdE s.1) ([], s.2)).2 else s.2
/-- behind both bytes -/
def bodyP (a b : Int) (s : St) : P := pyP a (xtP a (hdP b s (a % 16).toNat) (hdS s (a % 16).toNat)) (xtS a (hdS s (a % 16).toNat))
def bodyE (a : Int) (s : St) : Int := pyE a (xtS a (hdS s (a % 16).toNat))
/-- all of it: the state behind two bytes, an error if the version is another -/
def vr (s : St) : St := if vn 1 s / 64 = 2 then nx 1 (nx 1 s) else fl 2 (nx 1 (nx 1 s))
def allE (s : St) : Int := bodyE (vn 1 s) (vr s)
def allP (s : St) : P := bodyP (vn 1 s) (vn 1 (nx 1 s)) (vr s)
/-- Parse's answer -/
def outE (l : List UInt8) : Int := if 1500 < l.length then 4 else allE (l, 0)
def outP (l : List UInt8) : P := if outE l = 0 then allP (l, 0) else zero
end Go.Proofs.YtcppibjllaablaaGreat.rp

/-
  rtp.Parse: what it reads.
-/
namespace Go.Proofs.YtcppibjllaablaaGreat.rp
open Go.RowKit mem rd oref sq
set_option linter.unusedVariables false

abbrev PT : TypeId := 75
abbrev U4 : TypeId := 72

section
variable {w : World} {p : Nat} {d : P} {v : Value} {t : TypeId} (h : Blk w p (pc d v) t)
include h
theorem pc5 : w.cell? ⟨p, 5, none⟩ = some v := h.cell 5
theorem pc6 : w.cell? ⟨p, 6, none⟩ = some (.bool d.ext) := h.cell 6
theorem pc7 : w.cell? ⟨p, 7, none⟩ = some (.int .u16 d.prof) := h.cell 7
theorem pc8 : w.cell? ⟨p, 8, none⟩ = some (.string d.data) := h.cell 8
theorem pc9 : w.cell? ⟨p, 9, none⟩ = some (.string d.pay) := h.cell 9
theorem pc10 : w.cell? ⟨p, 10, none⟩ = some (.int .i64 d.pad) := h.cell 10
theorem ps5 (x : Value) : Blk (w.setCell ⟨p, 5, none⟩ x) p (pc d x) t := h.set 5 _
theorem ps6 (x : Bool) : Blk (w.setCell ⟨p, 6, none⟩ (.bool x)) p (pc { d with ext := x } v) t := h.set 6 _
theorem ps7 (x : Int) : Blk (w.setCell ⟨p, 7, none⟩ (.int .u16 x)) p (pc { d with prof := x } v) t := h.set 7 _
theorem ps8 (x : ByteArray) : Blk (w.setCell ⟨p, 8, none⟩ (.string x)) p (pc { d with data := x } v) t := h.set 8 _
theorem ps9 (x : ByteArray) : Blk (w.setCell ⟨p, 9, none⟩ (.string x)) p (pc { d with pay := x } v) t := h.set 9 _
theorem ps10 (x : Int) : Blk (w.setCell ⟨p, 10, none⟩ (.int .i64 x)) p (pc { d with pad := x } v) t := h.set 10 _
end

/-- a packet at pd, a reader at pr; nothing else has turned -/
def Both (w w' : World) (pd pr : Nat) (d : P) (v : Value) (s : St) : Prop := Blk w' pd (pc d v) PT ∧ Rs w' pr s ∧ Turns (fun k => k = pd ∨ k = pr) w w'

set_option maxHeartbeats 1000000 in
theorem takeExt (pd pr : Nat) (d : P) (v : Value) (s : St) (w : World) (hd : Blk w pd (pc d v) PT) (hr : Rs w pr s) (hne : pd ≠ pr) :
    Calls Tryz.prog 46 #[.pointer (some ⟨pd, 0, none⟩), .pointer (some ⟨pr, 0, none⟩)] w fun en w' => en = .returned (.tuple #[]) ∧ Both w w' pd pr (exP d s) v (exS s) := by
  have HU := Lib.hid (fun st w h => u16_st pr st w h)
  have HBy := Lib.hid (fun st n w h => bytes_st pr st n w h)
  have hb2 := vn_bd2 (nx 2 s)
  have hb1 := vn_bd2 s
  have HP : Hid (exP d s = { d with ext := true, prof := vn 2 s, data := lst (bn (exN s) (nx 2 (nx 2 s))) }) := Lib.hid rfl
  have HS : Hid (exS s = nx (exN s) (nx 2 (nx 2 s))) := Lib.hid rfl
  have hN : 4 * vn 2 (nx 2 s) = (exN s : Int) := by unfold exN; omega
  have hlt := hr.lt
  have c6 := pc6 hd
  have f6 := hd.free 6
  have hd1 := ps6 hd true
  have hr1 : Rs (w.setCell ⟨pd, 6, none⟩ (.bool true)) pr s := hr.turns ((Turns.refl (· = pd) w).setCell (.inl rfl) _) (fun h => hne h.symm)
  have ht1 : Turns (fun k => k = pd ∨ k = pr) w (w.setCell ⟨pd, 6, none⟩ (.bool true)) := (Turns.refl _ w).setCell (.inl (.inl rfl)) _
  have H1 := Lib.hid (And.intro hd1 (And.intro hr1 ht1))
  clear hd1 hr1 ht1 hd hr
  generalize exN s = n at *
  go_enter Tryz.func46, Tryz.ntmps46
  go_wp2_with fail
  generalize w.setCell ⟨pd, 6, none⟩ (.bool true) = w1 at *
  refine (HU.out s w1 H1.out.2.1).mono ?_
  rintro e w2 ⟨rfl, hr2, ht2⟩
  have hd2 := ht2.blk H1.out.1 hne
  have ht2' := H1.out.2.2.trans (ht2.mono (fun _ _ h => .inl (.inr h)))
  have c7 := pc7 hd2
  have f7 := hd2.free 7
  have hd3 := ps7 hd2 (vn 2 s)
  have hr3 : Rs (w2.setCell ⟨pd, 7, none⟩ (.int .u16 (vn 2 s))) pr (nx 2 s) := hr2.turns ((Turns.refl (· = pd) w2).setCell (.inl rfl) _) (fun h => hne h.symm)
  have ht3 : Turns (fun k => k = pd ∨ k = pr) w (w2.setCell ⟨pd, 7, none⟩ (.int .u16 (vn 2 s))) := ht2'.setCell (.inl (.inl rfl)) _
  have H3 := Lib.hid (And.intro hd3 (And.intro hr3 ht3))
  clear hd2 hr2 ht2 ht2' hd3 hr3 ht3 H1 c6 f6
  go_wp2_with fail
  generalize w2.setCell ⟨pd, 7, none⟩ (.int .u16 (vn 2 s)) = w3 at *
  refine (HU.out (nx 2 s) w3 H3.out.2.1).mono ?_
  rintro e w4 ⟨rfl, hr4, ht4⟩
  have hd4 := ht4.blk H3.out.1 hne
  have ht4' := H3.out.2.2.trans (ht4.mono (fun _ _ h => .inl (.inr h)))
  have H4 := Lib.hid (And.intro hd4 (And.intro hr4 ht4'))
  clear hd4 hr4 ht4 ht4' H3 c7 f7
  go_wp2_with fail
  refine (HBy.out (nx 2 (nx 2 s)) n w4 H4.out.2.1).mono ?_
  rintro e w5 ⟨rfl, hr5, ht5⟩
  have hd5 := ht5.blk H4.out.1 hne
  have c8 := pc8 hd5
  have f8 := hd5.free 8
  have hd6 := ps8 hd5 (lst (bn n (nx 2 (nx 2 s))))
  have hr6 := hr5.turns ((Turns.refl (· = pd) w5).setCell (p := ⟨pd, 8, none⟩) (.inl rfl) (.string (lst (bn n (nx 2 (nx 2 s)))))) (fun h => hne h.symm)
  have ht6 := (H4.out.2.2.trans (ht5.mono (fun _ _ h => .inl (.inr h)))).setCell (p := ⟨pd, 8, none⟩) (.inl (.inl rfl)) (.string (lst (bn n (nx 2 (nx 2 s)))))
  have H6 := Lib.hid (And.intro hd6 (And.intro hr6 ht6))
  clear hd5 hr5 ht5 hd6 hr6 ht6 H4
  go_wp2
  go_end0
  refine ⟨rfl, ?_⟩
  rw [HP.out, HS.out]
  exact H6.out

theorem isEmpty_nil {s : ByteArray} (h : s.data.toList = []) : s.toList.isEmpty = true := by rw [toList_eq, h]; rfl
theorem isEmpty_cons {s : ByteArray} (h : s.data.toList ≠ []) : s.toList.isEmpty = false := by
  rw [toList_eq]
  cases h2 : s.data.toList with
  | nil => exact absurd h2 h
  | cons a b => rfl

theorem last_bt (l : List UInt8) (h : l ≠ []) : bt ⟨l.toArray⟩ (l.length - 1) = lastB l := by
  unfold bt lastB
  have hl : 0 < l.length := List.length_pos_iff.2 h
  rw [dif_pos (show l.length - 1 < (⟨l.toArray⟩ : ByteArray).size by show l.length - 1 < l.length; omega)]
  rw [List.getLast?_eq_getElem?, List.getElem?_eq_getElem (by omega)]
  rfl

set_option maxHeartbeats 1000000 in
theorem padding (l : List UInt8) (hl : l.length ≤ 4611686018427387904) (w : World) :
    Calls Tryz.prog 84 #[.string (lst l)] w fun en w' => en = .returned (.tuple #[.int .i64 (pdN l), .int .i64 (pdE l)]) ∧ w = w' := by
  by_cases h0 : l = []
  · subst h0
    have he : (lst []).toList.isEmpty = true := isEmpty_nil rfl
    go_enter Tryz.func84, Tryz.ntmps84
    go_wp2
    go_ret2
    exact ⟨rfl, rfl⟩
  · have hlen : 0 < l.length := List.length_pos_iff.2 h0
    obtain ⟨k, hk⟩ : ∃ k : Nat, k + 1 = l.length := ⟨l.length - 1, by omega⟩
    obtain ⟨s, hs, hsz⟩ : ∃ s : ByteArray, s = lst l ∧ s.size = k + 1 := ⟨_, rfl, (size_mk l).trans hk.symm⟩
    have he : s.toList.isEmpty = false := isEmpty_cons (by rw [hs]; exact h0)
    have hlt : k < s.size := by omega
    have hkb : k ≤ 4611686018427387904 := by omega
    have hbt := bt_is s k hlt
    have hlb : bt s k = lastB l := by rw [hs, show k = l.length - 1 by omega]; exact last_bt l h0
    have HPN : Hid (pdN l = if l = [] then 0 else if lastB l = 0 then 0 else if (l.length : Int) < lastB l then 0 else lastB l) := Lib.hid rfl
    have HPE : Hid (pdE l = if l = [] then 1 else if lastB l = 0 then 2 else if (l.length : Int) < lastB l then 1 else 0) := Lib.hid rfl
    rw [if_neg h0, ← hk] at HPN HPE
    rw [← hs]
    rw [hlb] at hbt
    have hb : 0 ≤ lastB l ∧ lastB l ≤ 255 := by rw [← hlb]; exact bt_bd _ _
    clear hs hlb h0 hk
    generalize lastB l = x at *
    have hk2 : (s.size : Int) - 1 = (k : Int) := by omega
    have hk3 : (s.size : Int) = (k : Int) + 1 := by omega
    by_cases hx : x = 0
    · subst hx
      simp only [if_true] at HPN HPE
      go_enter Tryz.func84, Tryz.ntmps84
      go_wp2
      go_ret2
      rw [HPN.out, HPE.out]
      exact ⟨rfl, rfl⟩
    · have hxb : (x == 0) = false := by simp [hx]
      rw [if_neg hx] at HPN HPE
      by_cases hg : ((k + 1 : Nat) : Int) < x
      · rw [if_pos hg] at HPN HPE
        have hg2 : (s.size : Int) < x := by omega
        clear hx
        go_enter Tryz.func84, Tryz.ntmps84
        go_wp2
        go_ret2
        rw [HPN.out, HPE.out]
        exact ⟨rfl, rfl⟩
      · rw [if_neg hg] at HPN HPE
        have hg2 : ¬ (s.size : Int) < x := by omega
        clear hx
        go_enter Tryz.func84, Tryz.ntmps84
        go_wp2
        go_ret2
        rw [HPN.out, HPE.out]
        exact ⟨rfl, rfl⟩

/-- what splitPadding leaves -/
def spP (p : P) (l : List UInt8) : P := { p with pay := lst (l.take (l.length - (pdN l).toNat)), pad := pdN l }

set_option maxHeartbeats 1000000 in
theorem splitPad (pd pr : Nat) (d : P) (l : List UInt8) (v : Value) (s : St) (w : World) (hl : l.length ≤ 4611686018427387904) (hp : d.pay = lst l) (hd : Blk w pd (pc d v) PT) (hr : Rs w pr s) (hne : pd ≠ pr) :
    Calls Tryz.prog 48 #[.pointer (some ⟨pd, 0, none⟩), .pointer (some ⟨pr, 0, none⟩)] w fun en w' => en = .returned (.tuple #[]) ∧ Both w w' pd pr (spP d l) v (fl (pdE l) s) := by
  have HPd := Lib.hid (fun w => padding l hl w)
  have HFl := Lib.hid (fun x w h => fail_st pr s x w h)
  have HSP : Hid (spP d l = { d with pay := lst (l.take (l.length - (pdN l).toNat)), pad := pdN l }) := Lib.hid rfl
  have hn := pdN_bd l
  obtain ⟨m, hm⟩ : ∃ m : Nat, pdN l = (m : Int) := ⟨(pdN l).toNat, by omega⟩
  obtain ⟨j, hj⟩ : ∃ j : Nat, j + m = l.length := ⟨l.length - m, by omega⟩
  have hex : (lst l).extract 0 j = lst (l.take j) := by unfold lst; rw [extract_mk]; simp
  have hsz : (lst l).size = l.length := size_mk l
  have hj2 : ((lst l).size : Int) - (m : Int) = (j : Int) := by omega
  have hj3 : (j : Int) ≤ ((lst l).size : Int) := by omega
  have hjb : j ≤ 4611686018427387904 := by omega
  have hsb : (lst l).size ≤ 4611686018427387904 := by omega
  rw [hm] at HPd HSP hn
  rw [show l.length - (m : Int).toNat = j by omega] at HSP
  have c9 := pc9 hd
  rw [hp] at c9
  have H0 := Lib.hid (And.intro hd hr)
  have HEX := Lib.hid hex
  clear hd hr hm hex hsz hj hp
  generalize lst (l.take j) = T at *
  generalize lst l = L at *
  generalize pdE l = x at *
  go_enter Tryz.func48, Tryz.ntmps48
  go_wp2_with fail
  refine (HPd.out w).mono ?_
  rintro e w1 ⟨rfl, rfl⟩
  go_wp2_with fail
  refine (HFl.out x w H0.out.2).mono ?_
  rintro e w2 ⟨rfl, hr2, ht2⟩
  have hd2 := ht2.blk H0.out.1 hne
  have c9' := (ht2.cell (a := ⟨pd, 9, none⟩) H0.out.1.lt hne).trans c9
  have f9 := hd2.free 9
  have c10 := pc10 hd2
  have f10 := hd2.free 10
  have H2 := Lib.hid (And.intro hd2 (And.intro hr2 ht2))
  clear hd2 hr2 ht2 H0 c9
  go_wp2_with fail
  have hwj : IntKind.i64.wrap (j : Int) = (j : Int) := IntWalk.i64_in _ (by omega)
  go_region
  all_goals
    go_wp2
    go_end0
    have hT : Turns (fun k => k = pd ∨ k = pr) w w2 := H2.out.2.2.mono (fun _ _ h => .inr h)
    refine ⟨rfl, ?_, ?_, ?_⟩
    · rw [HSP.out, ← HEX.out]
      exact ps10 (ps9 H2.out.1 (L.extract 0 j)) (m : Int)
    · exact H2.out.2.1.turns (((Turns.refl (· = pd) w2).setCell (p := ⟨pd, 9, none⟩) (.inl rfl) (.string (L.extract 0 j))).setCell (p := ⟨pd, 10, none⟩) (.inl rfl) (.int .i64 (m : Int))).drew (fun h => hne h.symm)
    · exact ((hT.setCell (p := ⟨pd, 9, none⟩) (.inl (.inl rfl)) _).setCell (p := ⟨pd, 10, none⟩) (.inl (.inl rfl)) _).drew
end Go.Proofs.YtcppibjllaablaaGreat.rp

/-
  rtp.Parse: the packet, or the error.
-/
namespace Go.Proofs.YtcppibjllaablaaGreat.rp
open Go.RowKit mem rd oref sq
set_option linter.unusedVariables false

theorem info4 : (Tryz.prog.info? 72).map (fun i => (i.zero, i.size, i.bytes)) = some (some (.int .u32 0), 1, 4) := by kernel_rfl

/-- a row that the call owns, behind whatever turns other blocks -/
theorem own_turns {S : Nat → Prop} {w w' : World} {base : Nat} {e : TypeId} {v : Value} {n : Nat} {xs : List Value} (ho : w.ownsRow base e 1 v n xs) (ht : Turns S w w') (hs : ∀ g, v.ownBlock = some g → ¬ S g) : w'.ownsRow base e 1 v n xs := by
  refine ⟨ho.1, ?_⟩
  rcases ho.2 with h0 | ⟨g, cap, cur, rfl, hb0, hg, r⟩
  · exact .inl h0
  · refine .inr ⟨g, cap, cur, rfl, hb0, ?_, r⟩
    rw [ht.block g (lt_of_block hg) (hs g rfl)]; exact hg

theorem own_shape {w : World} {base : Nat} {e : TypeId} {v : Value} {n : Nat} {xs : List Value} (h : w.ownsRow base e 1 v n xs) : ∃ a c, v = .slice a n c := by
  rcases h.2 with ⟨rfl, rfl⟩ | ⟨g, cap, cur, rfl, _⟩
  · exact ⟨_, _, rfl⟩
  · exact ⟨_, _, rfl⟩
/-- in the middle of Parse: the result's block, the packet's, the reader's -/
structure Mid (w W : World) (pd pr : Nat) (p : P) (v : Value) (s : St) : Prop where
  b : Blk W pd (pc p v) PT
  r : Rs W pr s
  z : Blk W w.heap.size (pc zero (.slice none 0 0)) PT
  n : New w W
  o : W.ownsRow w.heap.size U4 1 v p.cs.length (p.cs.map (Value.int .u32))
  hr : w.heap.size < pr
  hd : w.heap.size < pd
  hne : pd ≠ pr
  v1 : v.ownBlock ≠ some pd
  v2 : v.ownBlock ≠ some pr
  v3 : v.ownBlock ≠ some w.heap.size

theorem Mid.both {w W W' : World} {pd pr : Nat} {p p' : P} {v : Value} {s s' : St} (h : Mid w W pd pr p v s) (k : Both W W' pd pr p' v s') (hc : p'.cs = p.cs) : Mid w W' pd pr p' v s' := by
  obtain ⟨kb, kr, kt⟩ := k
  refine ⟨kb, kr, kt.blk h.z (by have := h.hr; have := h.hd; omega), h.n.trans (kt.mono (fun k _ hk => .inr (by have := h.hr; have := h.hd; omega))), ?_, h.hr, h.hd, h.hne, h.v1, h.v2, h.v3⟩
  rw [hc]
  exact own_turns h.o kt (fun g hg hk => by rcases hk with rfl | rfl; exact h.v1 hg; exact h.v2 hg)
/-- a reader's call -/
theorem Mid.step {w W W' : World} {pd pr : Nat} {p : P} {v : Value} {s s' : St} (h : Mid w W pd pr p v s) (k : Step W W' pr s') : Mid w W' pd pr p v s' :=
  h.both ⟨k.2.blk h.b h.hne, k.1, k.2.mono (fun _ _ h => .inr h)⟩ rfl
/-- a store into the packet -/
theorem Mid.put {w W : World} {pd pr : Nat} {p p' : P} {v : Value} {s : St} (h : Mid w W pd pr p v s) (i : Nat) (x : Value) (k : Blk (W.setCell ⟨pd, i, none⟩ x) pd (pc p' v) PT) (hc : p'.cs = p.cs) : Mid w (W.setCell ⟨pd, i, none⟩ x) pd pr p' v s :=
  h.both ⟨k, h.r.turns ((Turns.refl (· = pd) W).setCell (.inl rfl) x) (fun e => h.hne e.symm), (Turns.refl _ W).setCell (.inl (.inl rfl)) x⟩ hc
theorem Mid.drew {w W : World} {pd pr : Nat} {p : P} {v : Value} {s : St} (h : Mid w W pd pr p v s) : Mid w W.drew pd pr p v s :=
  ⟨h.b.drew, h.r, h.z.drew, h.n.drew, h.o, h.hr, h.hd, h.hne, h.v1, h.v2, h.v3⟩

/-- the sources' append, and its store -/
theorem Mid.append {w W W1 : World} {pd pr : Nat} {p : P} {v v' : Value} {s : St} {x : Int} (h : Mid w W pd pr p v s) (hW : ∀ k, k < W.heap.size → True) {WA : World} (hA : New W WA)
    (ho : W1.ownsRow w.heap.size U4 1 v' (p.cs.length + 1) ((p.cs.map (Value.int .u32)) ++ [.int .u32 x])) (hg : WA.grownBy W1 v.ownBlock) (hat : v'.ownBlock = v.ownBlock ∨ ∃ g, v'.ownBlock = some g ∧ W.heap.size ≤ g) :
    Mid w (W1.setCell ⟨pd, 5, none⟩ v') pd pr { p with cs := p.cs ++ [x] } v' s := by
  have hpd := h.b.lt
  have hpr := h.r.lt
  have hz := h.z.lt
  have t1 : Turns (fun k => some k = v.ownBlock) W W1 := (hA.mono (fun _ _ h => h.elim)).trans ((Turns.of_grown hg).mono (fun _ _ h => .inl h))
  have b1 := t1.blk h.b (fun e => h.v1 e.symm)
  have r1 := h.r.turns t1 (fun e => h.v2 e.symm)
  have z1 := t1.blk h.z (fun e => h.v3 e.symm)
  have v1' : v'.ownBlock ≠ some pd := by
    rcases hat with e | ⟨g, e, hge⟩
    · rw [e]; exact h.v1
    · rw [e]; intro e2; injection e2 with e2; omega
  have v2' : v'.ownBlock ≠ some pr := by
    rcases hat with e | ⟨g, e, hge⟩
    · rw [e]; exact h.v2
    · rw [e]; intro e2; injection e2 with e2; omega
  have v3' : v'.ownBlock ≠ some w.heap.size := by
    rcases hat with e | ⟨g, e, hge⟩
    · rw [e]; exact h.v3
    · rw [e]; intro e2; injection e2 with e2; omega
  refine ⟨ps5 b1 v', r1.turns ((Turns.refl (· = pd) W1).setCell (.inl rfl) v') (fun e => h.hne e.symm), z1.setOther (a := ⟨pd, 5, none⟩) (show pd ≠ w.heap.size by have := h.hd; omega) v', ?_, ?_, h.hr, h.hd, h.hne, v1', v2', v3'⟩
  · refine (h.n.trans (t1.mono (fun k hk e => ?_))).setCell (.inr (show w.heap.size ≤ pd from Nat.le_of_lt h.hd)) v'
    right
    rcases h.o.2 with ⟨rfl, _⟩ | ⟨g, cap, cur, rfl, hb, _⟩
    · cases e
    · have : k = g := by injection e
      omega
  · have := ownsRow_setCell_other ho (show v'.ownBlock ≠ some (Addr.block ⟨pd, 5, none⟩) from v1') v'
    simp only [List.length_append, List.length_cons, List.length_nil, List.map_append, List.map_cons, List.map_nil]
    exact this

set_option maxHeartbeats 4000000 in
theorem parse_big (s0 : ByteArray) (w : World) (hs : s0.size ≤ 4611686018427387904) (hb : 1500 < s0.size) :
    Calls Tryz.prog 16 #[.string s0] w fun en w' => en = .returned (.tuple #[.agg (pc zero (.slice none 0 0)), .int .i64 4]) ∧ New w w' := by
  have hb' : (1500 : Int) < (s0.size : Int) := by omega
  go_enter Tryz.func16, Tryz.ntmps16
  go_wp2
  go_returns
  exact ⟨rfl, (Turns.refl _ _).alloc _⟩

section
variable {w : World} {p : Nat} {d : P} {v : Value} {t : TypeId} (h : Blk w p (pc d v) t)
include h
theorem pc2 : w.cell? ⟨p, 2, none⟩ = some (.int .u16 d.seq) := h.cell 2
theorem pc3 : w.cell? ⟨p, 3, none⟩ = some (.int .u32 d.time) := h.cell 3
theorem pc4 : w.cell? ⟨p, 4, none⟩ = some (.int .u32 d.ssrc) := h.cell 4
theorem ps2 (x : Int) : Blk (w.setCell ⟨p, 2, none⟩ (.int .u16 x)) p (pc { d with seq := x } v) t := h.set 2 _
theorem ps3 (x : Int) : Blk (w.setCell ⟨p, 3, none⟩ (.int .u32 x)) p (pc { d with time := x } v) t := h.set 3 _
theorem ps4 (x : Int) : Blk (w.setCell ⟨p, 4, none⟩ (.int .u32 x)) p (pc { d with ssrc := x } v) t := h.set 4 _
end
/-- eleven stores into one block -/
def put11 (w : World) (p : Nat) (v0 v1 v2 v3 v4 v5 v6 v7 v8 v9 v10 : Value) : World := (((((((((((w.setCell ⟨p, 0, none⟩ v0).setCell ⟨p, 1, none⟩ v1).setCell ⟨p, 2, none⟩ v2).setCell ⟨p, 3, none⟩ v3).setCell ⟨p, 4, none⟩ v4).setCell ⟨p, 5, none⟩ v5).setCell ⟨p, 6, none⟩ v6).setCell ⟨p, 7, none⟩ v7).setCell ⟨p, 8, none⟩ v8).setCell ⟨p, 9, none⟩ v9).setCell ⟨p, 10, none⟩ v10)
theorem put11_blk {w : World} {p : Nat} {a0 a1 a2 a3 a4 a5 a6 a7 a8 a9 a10 : Value} {t : TypeId} (h : Blk w p #[a0, a1, a2, a3, a4, a5, a6, a7, a8, a9, a10] t) (v0 v1 v2 v3 v4 v5 v6 v7 v8 v9 v10 : Value) : Blk (put11 w p v0 v1 v2 v3 v4 v5 v6 v7 v8 v9 v10) p #[v0, v1, v2, v3, v4, v5, v6, v7, v8, v9, v10] t := by
  have h0 : Blk (w.setCell ⟨p, 0, none⟩ v0) p #[v0, a1, a2, a3, a4, a5, a6, a7, a8, a9, a10] t := h.set 0 v0
  have h1 : Blk ((w.setCell ⟨p, 0, none⟩ v0).setCell ⟨p, 1, none⟩ v1) p #[v0, v1, a2, a3, a4, a5, a6, a7, a8, a9, a10] t := h0.set 1 v1
  have h2 : Blk (((w.setCell ⟨p, 0, none⟩ v0).setCell ⟨p, 1, none⟩ v1).setCell ⟨p, 2, none⟩ v2) p #[v0, v1, v2, a3, a4, a5, a6, a7, a8, a9, a10] t := h1.set 2 v2
  have h3 : Blk ((((w.setCell ⟨p, 0, none⟩ v0).setCell ⟨p, 1, none⟩ v1).setCell ⟨p, 2, none⟩ v2).setCell ⟨p, 3, none⟩ v3) p #[v0, v1, v2, v3, a4, a5, a6, a7, a8, a9, a10] t := h2.set 3 v3
  have h4 : Blk (((((w.setCell ⟨p, 0, none⟩ v0).setCell ⟨p, 1, none⟩ v1).setCell ⟨p, 2, none⟩ v2).setCell ⟨p, 3, none⟩ v3).setCell ⟨p, 4, none⟩ v4) p #[v0, v1, v2, v3, v4, a5, a6, a7, a8, a9, a10] t := h3.set 4 v4
  have h5 : Blk ((((((w.setCell ⟨p, 0, none⟩ v0).setCell ⟨p, 1, none⟩ v1).setCell ⟨p, 2, none⟩ v2).setCell ⟨p, 3, none⟩ v3).setCell ⟨p, 4, none⟩ v4).setCell ⟨p, 5, none⟩ v5) p #[v0, v1, v2, v3, v4, v5, a6, a7, a8, a9, a10] t := h4.set 5 v5
  have h6 : Blk (((((((w.setCell ⟨p, 0, none⟩ v0).setCell ⟨p, 1, none⟩ v1).setCell ⟨p, 2, none⟩ v2).setCell ⟨p, 3, none⟩ v3).setCell ⟨p, 4, none⟩ v4).setCell ⟨p, 5, none⟩ v5).setCell ⟨p, 6, none⟩ v6) p #[v0, v1, v2, v3, v4, v5, v6, a7, a8, a9, a10] t := h5.set 6 v6
  have h7 : Blk ((((((((w.setCell ⟨p, 0, none⟩ v0).setCell ⟨p, 1, none⟩ v1).setCell ⟨p, 2, none⟩ v2).setCell ⟨p, 3, none⟩ v3).setCell ⟨p, 4, none⟩ v4).setCell ⟨p, 5, none⟩ v5).setCell ⟨p, 6, none⟩ v6).setCell ⟨p, 7, none⟩ v7) p #[v0, v1, v2, v3, v4, v5, v6, v7, a8, a9, a10] t := h6.set 7 v7
  have h8 : Blk (((((((((w.setCell ⟨p, 0, none⟩ v0).setCell ⟨p, 1, none⟩ v1).setCell ⟨p, 2, none⟩ v2).setCell ⟨p, 3, none⟩ v3).setCell ⟨p, 4, none⟩ v4).setCell ⟨p, 5, none⟩ v5).setCell ⟨p, 6, none⟩ v6).setCell ⟨p, 7, none⟩ v7).setCell ⟨p, 8, none⟩ v8) p #[v0, v1, v2, v3, v4, v5, v6, v7, v8, a9, a10] t := h7.set 8 v8
  have h9 : Blk ((((((((((w.setCell ⟨p, 0, none⟩ v0).setCell ⟨p, 1, none⟩ v1).setCell ⟨p, 2, none⟩ v2).setCell ⟨p, 3, none⟩ v3).setCell ⟨p, 4, none⟩ v4).setCell ⟨p, 5, none⟩ v5).setCell ⟨p, 6, none⟩ v6).setCell ⟨p, 7, none⟩ v7).setCell ⟨p, 8, none⟩ v8).setCell ⟨p, 9, none⟩ v9) p #[v0, v1, v2, v3, v4, v5, v6, v7, v8, v9, a10] t := h8.set 9 v9
  have h10 : Blk (((((((((((w.setCell ⟨p, 0, none⟩ v0).setCell ⟨p, 1, none⟩ v1).setCell ⟨p, 2, none⟩ v2).setCell ⟨p, 3, none⟩ v3).setCell ⟨p, 4, none⟩ v4).setCell ⟨p, 5, none⟩ v5).setCell ⟨p, 6, none⟩ v6).setCell ⟨p, 7, none⟩ v7).setCell ⟨p, 8, none⟩ v8).setCell ⟨p, 9, none⟩ v9).setCell ⟨p, 10, none⟩ v10) p #[v0, v1, v2, v3, v4, v5, v6, v7, v8, v9, v10] t := h9.set 10 v10
  exact h10
theorem put11_turns {S : Nat → Prop} {a w : World} {p : Nat} (h : Turns S a w) (hp : S p ∨ a.heap.size ≤ p) (v0 v1 v2 v3 v4 v5 v6 v7 v8 v9 v10 : Value) : Turns S a (put11 w p v0 v1 v2 v3 v4 v5 v6 v7 v8 v9 v10) := (((((((((((h.setCell (p := ⟨p, 0, none⟩) hp v0).setCell (p := ⟨p, 1, none⟩) hp v1).setCell (p := ⟨p, 2, none⟩) hp v2).setCell (p := ⟨p, 3, none⟩) hp v3).setCell (p := ⟨p, 4, none⟩) hp v4).setCell (p := ⟨p, 5, none⟩) hp v5).setCell (p := ⟨p, 6, none⟩) hp v6).setCell (p := ⟨p, 7, none⟩) hp v7).setCell (p := ⟨p, 8, none⟩) hp v8).setCell (p := ⟨p, 9, none⟩) hp v9).setCell (p := ⟨p, 10, none⟩) hp v10)
section
variable {w : World} {p : Nat} {a0 a1 a2 a3 a4 a5 a6 a7 a8 a9 a10 : Value} {t : TypeId} (h : Blk w p #[a0, a1, a2, a3, a4, a5, a6, a7, a8, a9, a10] t)
include h
theorem cells11 : w.cell? ⟨p, 0, none⟩ = some a0 ∧ w.cell? ⟨p, 1, none⟩ = some a1 ∧ w.cell? ⟨p, 2, none⟩ = some a2 ∧ w.cell? ⟨p, 3, none⟩ = some a3 ∧ w.cell? ⟨p, 4, none⟩ = some a4 ∧ w.cell? ⟨p, 5, none⟩ = some a5 ∧ w.cell? ⟨p, 6, none⟩ = some a6 ∧ w.cell? ⟨p, 7, none⟩ = some a7 ∧ w.cell? ⟨p, 8, none⟩ = some a8 ∧ w.cell? ⟨p, 9, none⟩ = some a9 ∧ w.cell? ⟨p, 10, none⟩ = some a10 := ⟨h.cell 0, h.cell 1, h.cell 2, h.cell 3, h.cell 4, h.cell 5, h.cell 6, h.cell 7, h.cell 8, h.cell 9, h.cell 10⟩
theorem frees11 : w.frozen? ⟨p, 0, none⟩ = false ∧ w.frozen? ⟨p, 1, none⟩ = false ∧ w.frozen? ⟨p, 2, none⟩ = false ∧ w.frozen? ⟨p, 3, none⟩ = false ∧ w.frozen? ⟨p, 4, none⟩ = false ∧ w.frozen? ⟨p, 5, none⟩ = false ∧ w.frozen? ⟨p, 6, none⟩ = false ∧ w.frozen? ⟨p, 7, none⟩ = false ∧ w.frozen? ⟨p, 8, none⟩ = false ∧ w.frozen? ⟨p, 9, none⟩ = false ∧ w.frozen? ⟨p, 10, none⟩ = false := ⟨h.free 0, h.free 1, h.free 2, h.free 3, h.free 4, h.free 5, h.free 6, h.free 7, h.free 8, h.free 9, h.free 10⟩
end
theorem hdP_succ (b : Int) (s : St) (k : Nat) : hdP b s (k + 1) = { hdP b s k with cs := (hdP b s k).cs ++ [vn 4 (hdS s k)] } := by
  unfold hdP hdS
  rw [csL_succ]
theorem hdP_len (b : Int) (s : St) (k : Nat) : (hdP b s k).cs.length = k := csL_len _ _
theorem hdS_succ (s : St) (k : Nat) : hdS s (k + 1) = nx 4 (hdS s k) := rfl
theorem and128b (a : Int) (h0 : 0 ≤ a) (h1 : a ≤ 255) : bits .and .u8 a 128 = if 128 ≤ a then 128 else 0 := vp.and128 a h0 h1

set_option maxRecDepth 100000 in
set_option maxHeartbeats 8000000 in
theorem parse_small (s0 : ByteArray) (w : World) (hs : s0.size ≤ 1500) :
    Calls Tryz.prog 16 #[.string s0] w fun en w' => ∃ v, en = .returned (.tuple #[.agg (pc (outP s0.data.toList) v), .int .i64 (outE s0.data.toList)]) ∧ New w w' ∧ w'.ownsRow w.heap.size U4 1 v (outP s0.data.toList).cs.length ((outP s0.data.toList).cs.map (Value.int .u32)) := by
  have HU8 := Lib.hid (fun p st w h => u8_st p st w h)
  have HU16 := Lib.hid (fun p st w h => u16_st p st w h)
  have HU32 := Lib.hid (fun p st w h => u32_st p st w h)
  have HR := Lib.hid (fun w => read_st s0 w (by omega))
  have hlen : s0.data.toList.length = s0.size := Go.Proofs.YtcppibjllaablaaGreat.wr.size_list s0
  have HOE : Hid (outE s0.data.toList = allE (s0.data.toList, 0)) := Lib.hid (by unfold outE; rw [if_neg (by omega)])
  have HOP : Hid (outP s0.data.toList = if outE s0.data.toList = 0 then allP (s0.data.toList, 0) else zero) := Lib.hid rfl
  have hls : ∀ st : St, st.1.length ≤ 1500 → st.1.length ≤ 4611686018427387904 := fun _ h => by omega
  have hsl : (s0.data.toList, (0 : Int)).1.length ≤ 1500 := by simp only; omega
  have hsb : ¬ (1500 : Int) < (s0.size : Int) := by omega
  have hoks : Ok (s0.data.toList, (0 : Int)) := by simp [Ok]
  generalize (s0.data.toList, (0 : Int)) = s at *
  clear hlen
  go_enter Tryz.func16, Tryz.ntmps16
  go_wp2_with fail
  refine (HR.out _).mono ?_
  rintro e w1 ⟨rfl, hr1, hn1⟩
  have hz1 := hn1.blk (Blk.new w #[.bool false, .int .u8 0, .int .u16 0, .int .u32 0, .int .u32 0, .slice none 0 0, .bool false, .int .u16 0, .string ⟨#[]⟩, .string ⟨#[]⟩, .int .i64 0] PT) (fun h => h)
  have hn1' : New w w1 := ((Turns.refl _ w).alloc (.cells #[.bool false, .int .u8 0, .int .u16 0, .int .u32 0, .int .u32 0, .slice none 0 0, .bool false, .int .u16 0, .string ⟨#[]⟩, .string ⟨#[]⟩, .int .i64 0] PT)).trans (hn1.mono (fun _ _ h => h.elim))
  have hpr : w.heap.size < (w.alloc (.cells #[.bool false, .int .u8 0, .int .u16 0, .int .u32 0, .int .u32 0, .slice none 0 0, .bool false, .int .u16 0, .string ⟨#[]⟩, .string ⟨#[]⟩, .int .i64 0] PT)).heap.size := by simp
  have hpr1 := hr1.lt
  generalize (w.alloc (.cells #[.bool false, .int .u8 0, .int .u16 0, .int .u32 0, .int .u32 0, .slice none 0 0, .bool false, .int .u16 0, .string ⟨#[]⟩, .string ⟨#[]⟩, .int .i64 0] PT)).heap.size = pr at *
  clear hn1 HR hs
  have HT1 := Lib.hid (HU8.out pr s w1 hr1)
  have H1 := Lib.hid (And.intro hz1 hn1')
  clear hr1 hz1 hn1'
  go_wp2_with fail
  refine (HT1.out).mono ?_
  rintro e w2 ⟨rfl, hr2, ht2⟩
  have HT2 := Lib.hid (HU8.out pr (nx 1 s) w2 hr2)
  have hz2 := ht2.blk H1.out.1 (by omega)
  have hn2 : New w w2 := H1.out.2.trans (ht2.mono (fun k _ h => .inr (by omega)))
  have H2 := Lib.hid (And.intro hz2 hn2)
  clear hr2 ht2 hz2 hn2 H1 HT1
  go_wp2_with fail
  refine (HT2.out).mono ?_
  rintro e w3 ⟨rfl, hr3, ht3⟩
  have hz3 := ht3.blk H2.out.1 (by omega)
  have hn3 : New w w3 := H2.out.2.trans (ht3.mono (fun k _ h => .inr (by omega)))
  have H3 := Lib.hid (And.intro hr3 (And.intro hz3 hn3))
  clear hr3 ht3 hz3 hn3 H2 HT2
  have hba := vn_bd1 s
  have hbb := vn_bd1 (nx 1 s)
  have HVR : Hid (vr s = if vn 1 s / 64 = 2 then nx 1 (nx 1 s) else fl 2 (nx 1 (nx 1 s))) := Lib.hid rfl
  have HAE : Hid (allE s = bodyE (vn 1 s) (vr s)) := Lib.hid rfl
  have HAP : Hid (allP s = bodyP (vn 1 s) (vn 1 (nx 1 s)) (vr s)) := Lib.hid rfl
  have hvl : (vr s).1.length ≤ 1500 := by
    unfold vr
    split
    · exact Nat.le_trans (nx_len 1 _) (Nat.le_trans (nx_len 1 _) hsl)
    · exact Nat.le_trans (fl_len 2 _) (Nat.le_trans (nx_len 1 _) (Nat.le_trans (nx_len 1 _) hsl))
  generalize vn 1 (nx 1 s) = b at *
  generalize vn 1 s = a at *
  go_upto_if 21 with fail
  have hvr : ∀ x, (if a / 64 = 2 then x else fl 2 x) = (if a / 64 = 2 then x else fl 2 x) := fun _ => rfl
  obtain ⟨sv, hsv⟩ : ∃ x, x = vr s := ⟨_, rfl⟩
  rw [← hsv] at HVR HAE HAP hvl
  have hokv : Ok sv := by rw [hsv]; unfold vr; split; exact nx_ok 1 (nx_ok 1 hoks); exact fl_ok 2 (nx_ok 1 (nx_ok 1 hoks))
  clear hsv hvr
  go_cut [] (fun wx => Rs wx pr sv ∧ Blk wx w.heap.size #[.bool false, .int .u8 0, .int .u16 0, .int .u32 0, .int .u32 0, .slice none 0 0, .bool false, .int .u16 0, .string ⟨#[]⟩, .string ⟨#[]⟩, .int .i64 0] PT ∧ New w wx)
  case first =>
    by_cases ha : a / 64 = 2
    · have hab : (a / 64 != 2) = false := by simp [ha]
      rw [if_pos ha] at HVR
      rw [hab]
      clear hab ha
      go_wp2_with fail
      go_meet
      case rel => rw [HVR.out]; exact H3.out
    · have hab : (a / 64 != 2) = true := by simp [ha]
      rw [if_neg ha] at HVR
      rw [hab]
      clear hab ha
      have HF := Lib.hid (fail_st pr _ 2 w3 H3.out.1)
      go_wp2_with fail
      refine (HF.out).mono ?_
      rintro e w4 ⟨rfl, hr4, ht4⟩
      go_wp2_with fail
      go_meet
      case rel =>
        rw [HVR.out]
        exact ⟨hr4, ht4.blk H3.out.2.1 (by omega), H3.out.2.2.trans (ht4.mono (fun k _ h => .inr (by omega)))⟩
  case rest =>
    obtain ⟨hr4, hz4, hn4⟩ := hcut
    clear H3 HVR
    have h127 := vp.and127 b hbb.1 hbb.2
    have hlt4 := hz4.lt
    have hlt5 := hr4.lt
    have hM : Mid w (wc.alloc (.cells #[.bool (bits .and .u8 b 128 != 0), .int .u8 (b % 128), .int .u16 0, .int .u32 0, .int .u32 0, .slice none 0 0, .bool false, .int .u16 0, .string ⟨#[]⟩, .string ⟨#[]⟩, .int .i64 0] PT)) wc.heap.size pr { zero with mrk := vp.b128 b, typ := b % 128 } (.slice none 0 0) sv :=
      ⟨Blk.new wc _ _, hr4.turns ((Turns.refl (fun _ => False) wc).alloc _) (fun h => h), hz4.alloc _, hn4.alloc _, World.ownsRow_nil _ _ _ _, hpr, hlt4, by omega, by simp [Value.ownBlock], by simp [Value.ownBlock], by simp [Value.ownBlock]⟩
    have HM := Lib.hid hM
    clear hM hr4 hz4 hn4
    have hpdp : wc.heap.size ≠ pr := by omega
    go_wp2_with fail
    obtain ⟨W0, hW0⟩ : ∃ W, W = wc.alloc (.cells #[.bool (bits .and .u8 b 128 != 0), .int .u8 (b % 128), .int .u16 0, .int .u32 0, .int .u32 0, .slice none 0 0, .bool false, .int .u16 0, .string ⟨#[]⟩, .string ⟨#[]⟩, .int .i64 0] PT) := ⟨_, rfl⟩
    rw [← hW0] at HM ⊢
    clear hW0
    generalize wc.heap.size = pd at *
    refine (HU16.out pr sv W0 HM.out.r).mono ?_
    rintro e V0 ⟨rfl, k0⟩
    have hm := HM.out.step k0
    have hold := pc2 hm.b
    have hfr := hm.b.free 2
    have hm2 := hm.put 2 _ (ps2 hm.b (vn 2 sv)) rfl
    have HM1 := Lib.hid hm2
    clear hm hm2 k0 HM
    go_wp2_with fail
    generalize V0.setCell ⟨pd, 2, none⟩ (.int .u16 (vn 2 sv)) = W1 at *
    clear hold hfr
    refine (HU32.out pr (nx 2 sv) W1 HM1.out.r).mono ?_
    rintro e V1 ⟨rfl, k1⟩
    have hm := HM1.out.step k1
    have hold := pc3 hm.b
    have hfr := hm.b.free 3
    have hm2 := hm.put 3 _ (ps3 hm.b (vn 4 (nx 2 sv))) rfl
    have HM2 := Lib.hid hm2
    clear hm hm2 k1 HM1
    go_wp2_with fail
    generalize V1.setCell ⟨pd, 3, none⟩ (.int .u32 (vn 4 (nx 2 sv))) = W2 at *
    clear hold hfr
    refine (HU32.out pr (nx 4 (nx 2 sv)) W2 HM2.out.r).mono ?_
    rintro e V2 ⟨rfl, k2⟩
    have hm := HM2.out.step k2
    have hold := pc4 hm.b
    have hfr := hm.b.free 4
    have hm2 := hm.put 4 _ (ps4 hm.b (vn 4 (nx 4 (nx 2 sv)))) rfl
    have HM3 := Lib.hid hm2
    clear hm hm2 k2 HM2
    have h15 := vp.and15 a hba.1 hba.2
    obtain ⟨N, hN, hN2⟩ : ∃ N : Nat, a % 16 = (N : Int) ∧ N ≤ 15 := ⟨(a % 16).toNat, by omega, by omega⟩
    rw [hN] at h15
    go_wp2_with fail
    generalize V2.setCell ⟨pd, 4, none⟩ (.int .u32 (vn 4 (nx 4 (nx 2 sv)))) = W3 at *
    clear hold hfr
    have HM4 : Hid (Mid w W3 pd pr (hdP b sv 0) (.slice none 0 0) (hdS sv 0)) := Lib.hid HM3.out
    clear HM3
    obtain ⟨i0, hi, hz0, hz1, hz2⟩ := info_parts info4
    go_loopw [41] (fun j wr => ∃ k : Nat, k ≤ N ∧ j = .int .u8 k ∧ ∃ v, Mid w wr pd pr (hdP b sv k) v (hdS sv k)) (fun j _ => N - (intOf j).toNat)
    case atStart => exact ⟨0, Nat.zero_le _, rfl, _, HM4.out⟩
    case round =>
      clear HM4
      obtain ⟨k, hk, rfl, v, hm⟩ := hrel
      have HK := Lib.hid hm
      by_cases hlt : k < N
      · have hx := vn_bd4 (hdS sv k)
        have hcl := hdP_len b sv k
        have hlt' : (k : Int) < (N : Int) := by omega
        have HU := Lib.hid (fun w h => HU32.out pr (hdS sv k) w h)
        have HS1 := Lib.hid (hdP_succ b sv k)
        have c5 := pc5 hm.b
        clear hm
        have HCL := Lib.hid hcl
        clear hcl
        generalize vn 4 (hdS sv k) = x at *
        go_wp2_with fail
        go_region_law (first
          | (go_simp; go_at_call 45; (with_reducible refine (HU.out _ ?_).mono ?_); (exact HK.out.drew.r); rintro e w2 ⟨rfl, k2⟩; have m2 := HK.out.drew.step k2; have c52 := pc5 m2.b; have M2 := Lib.hid m2; have hpd2 := m2.b.lt; clear m2 k2)
          | (refine step_append_lies _ (by rfl) _ _ _ (by rfl) w.heap.size U4 i0 (.int .u32 0) 1 4 Tryz.underlying73 hi hz0 hz1 hz2 rfl (by decide) v _ _ (by rfl) (M2.out.o.alloc _)
                ⟨w2.heap.size, 0, none⟩ 1 1 [.int .u32 x] (by rfl) (by rfl) (World.news_of_block (cs := #[.int .u32 x]) (t := U4) (fr := (0, 0)) (heap_alloc_new w2 _)) (by simp [Value.oneCell'])
                (by omega) (by rw [HCL.out]; unfold maxLen; omega) (by rw [HCL.out]; omega) (by have := M2.out.hd; simp; omega) (w2.heap.size + 1) (by simp) ?_; intro g cap w1' hown hgrow hat hlt2; have hc1 : w1'.cell? ⟨pd, 5, none⟩ = some v := (hgrow.cell_far ⟨pd, 5, none⟩ (by simp; omega) (fun h => M2.out.v1 h.symm)).trans ((World.cell?_alloc_past _ _ _ hpd2).trans c52); have hf1 : w1'.frozen? ⟨pd, 5, none⟩ = false := (hgrow.frozen_far ⟨pd, 5, none⟩ (by simp; omega) (fun h => M2.out.v1 h.symm)).trans ((World.frozen?_alloc_past _ _ _ hpd2).trans (M2.out.b.free 5))))
        all_goals
          have R := M2.out.append (fun _ _ => trivial) ((Turns.refl (fun _ => False) w2).alloc (.cells #[.int .u32 x] U4)) hown hgrow (by rcases hat with h | h; exact .inl h.symm; exact .inr ⟨g, rfl, by omega⟩)
          rw [← HS1.out] at R
          have R2 := Lib.hid R
          clear R hown hgrow hat hc1 hf1 c5 c52 M2 HK
          go_wp2
          go_roundw
          case rel => exact ⟨k + 1, by omega, by go_num, _, R2.out⟩
          case measure => simp [intOf]; omega
      · obtain rfl : k = N := by omega
        clear hk hlt
        have hlt' : ¬ ((k : Int) < (k : Int)) := by omega
        clear hm
        have HXT : Hid (bodyP a b sv = pyP a (xtP a (hdP b sv k) (hdS sv k)) (xtS a (hdS sv k))) := Lib.hid (by unfold bodyP; rw [hN]; rfl)
        have HXE : Hid (bodyE a sv = pyE a (xtS a (hdS sv k))) := Lib.hid (by unfold bodyE; rw [hN]; rfl)
        have hsl2 : (hdS sv k).1.length ≤ 1500 := by
          unfold hdS
          exact Nat.le_trans (it_len _ _) (Nat.le_trans (nx_len _ _) (Nat.le_trans (nx_len _ _) (Nat.le_trans (nx_len _ _) hvl)))
        generalize hdP b sv k = p1 at *
        generalize hdS sv k = s1 at *
        go_upto_if 53 with fail
        go_cut [] (fun wx => Mid w wx pd pr (xtP a p1 s1) v (xtS a s1))
        case first =>
          have h16 := vp.and16 a hba.1 hba.2
          by_cases h : a / 16 % 2 = 1
          · rw [if_pos h] at h16
            have hxp : xtP a p1 s1 = exP p1 s1 := by unfold xtP; rw [if_pos h]
            have hxs : xtS a s1 = exS s1 := by unfold xtS; rw [if_pos h]
            have HX := Lib.hid (And.intro hxp hxs)
            have HT := Lib.hid (takeExt pd pr p1 v s1 wr HK.out.b HK.out.r HK.out.hne)
            clear h hxp hxs
            go_wp2_with fail
            refine (HT.out).mono ?_
            rintro e w5 ⟨rfl, hB⟩
            go_wp2_with fail
            go_meet
            case rel =>
              rw [HX.out.1, HX.out.2]
              exact HK.out.both hB rfl
          · rw [if_neg h] at h16
            have hxp : xtP a p1 s1 = p1 := by unfold xtP; rw [if_neg h]
            have hxs : xtS a s1 = s1 := by unfold xtS; rw [if_neg h]
            have HX := Lib.hid (And.intro hxp hxs)
            clear h hxp hxs
            go_wp2_with fail
            go_meet
            case rel =>
              rw [HX.out.1, HX.out.2]
              exact HK.out
        case rest =>
          have HM5 := Lib.hid hcut
          clear HK hcut
          have hsl3 : (xtS a s1).1.length ≤ 1500 := by
            unfold xtS exS exS1
            split
            · exact Nat.le_trans (nx_len _ _) (Nat.le_trans (nx_len _ _) (Nat.le_trans (nx_len _ _) hsl2))
            · exact hsl2
          generalize xtP a p1 s1 = p2 at *
          generalize xtS a s1 = s2 at *
          have HRest := Lib.hid (rest_st pr s2 wc HM5.out.r)
          go_wp2_with fail
          refine (HRest.out).mono ?_
          rintro e w6 ⟨rfl, k6⟩
          have m6 := HM5.out.step k6
          have c9 := pc9 m6.b
          have f9 := m6.b.free 9
          have m7 := m6.put 9 _ (ps9 m6.b (lst s2.1)) rfl
          have HM7 := Lib.hid m7
          clear m6 m7 k6 HRest HM5
          go_upto_if 61 with fail
          refine (show Code.wp _ _ _ _ (w6.setCell ⟨pd, 9, none⟩ (.string (lst s2.1))) from ?_)
          generalize w6.setCell ⟨pd, 9, none⟩ (.string (lst s2.1)) = w7 at *
          clear c9 f9
          go_cut [] (fun wx => ∃ st : St, st.2 = pyE a s2 ∧ Mid w wx pd pr (pyP a p2 s2) v st)
          case first =>
            have h32 := vp.and32 a hba.1 hba.2
            by_cases h : a / 32 % 2 = 1
            · rw [if_pos h] at h32
              have hxp : pyP a p2 s2 = spP { p2 with pay := lst s2.1 } s2.1 := by unfold pyP; rw [if_pos h]; rfl
              have hxs : pyE a s2 = (fl (pdE s2.1) ([], s2.2)).2 := by unfold pyE; rw [if_pos h]
              have HX := Lib.hid (And.intro hxp hxs)
              have HT := Lib.hid (splitPad pd pr { p2 with pay := lst s2.1 } s2.1 v ([], s2.2) w7 (by omega) rfl HM7.out.b HM7.out.r HM7.out.hne)
              clear h hxp hxs
              go_wp2_with fail
              refine (HT.out).mono ?_
              rintro e w8 ⟨rfl, hB⟩
              go_wp2_with fail
              go_meet
              case rel =>
                rw [HX.out.1, HX.out.2]
                exact ⟨_, rfl, HM7.out.both hB rfl⟩
            · rw [if_neg h] at h32
              have hxp : pyP a p2 s2 = { p2 with pay := lst s2.1 } := by unfold pyP; rw [if_neg h]
              have hxs : pyE a s2 = s2.2 := by unfold pyE; rw [if_neg h]
              have HX := Lib.hid (And.intro hxp hxs)
              clear h hxp hxs
              go_wp2_with fail
              go_meet
              case rel =>
                rw [HX.out.1, HX.out.2]
                exact ⟨([], s2.2), rfl, HM7.out⟩
          case rest =>
            obtain ⟨st, hst, hm9⟩ := hcut
            clear HM7
            obtain ⟨nv, hnv⟩ : ∃ n, n = (pyP a p2 s2).cs.length := ⟨_, rfl⟩
            obtain ⟨av, cv, hvv⟩ := own_shape hm9.o
            rw [← hnv] at hvv
            subst hvv
            clear hnv
            have HErr := Lib.hid (err_st pr st wc hm9.r)
            have HST := Lib.hid hst
            have HM9 := Lib.hid hm9
            obtain ⟨z, hz⟩ : ∃ z, z = st.2 := ⟨_, rfl⟩
            rw [← hz] at HErr HST
            clear hst hm9 hz
            go_wp2_with fail
            refine (HErr.out).mono ?_
            rintro e w10 ⟨rfl, rfl⟩
            have hbz : Blk wc w.heap.size #[.bool false, .int .u8 0, .int .u16 0, .int .u32 0, .int .u32 0, .slice none 0 0, .bool false, .int .u16 0, .string ⟨#[]⟩, .string ⟨#[]⟩, .int .i64 0] PT := HM9.out.z
            obtain ⟨z0, z1, z2, z3, z4, z5, z6, z7, z8, z9, z10⟩ := cells11 hbz
            obtain ⟨f0, f1, f2, f3, f4, f5, f6, f7, f8, f9, f10⟩ := frees11 hbz
            by_cases he : z = 0
            · subst he
              have HO := Lib.hid HM9.out.o
              have hbd := HM9.out.b
              have hne := HM9.out.hne
              have hhd := HM9.out.hd
              have hn := HM9.out.n
              have hv3 := HM9.out.v3
              have HPP : Hid (outE s0.data.toList = 0 ∧ outP s0.data.toList = pyP a p2 s2) := by
                have e1 : outE s0.data.toList = 0 := by rw [HOE.out, HAE.out, HXE.out]; exact HST.out.symm
                refine Lib.hid ⟨e1, ?_⟩
                rw [HOP.out, if_pos e1, HAP.out, HXT.out]
              generalize pyP a p2 s2 = pp at *
              obtain ⟨mrk, typ, seq, time, ssrc, cs, ext, prof, data, pay, pad⟩ := pp
              have hbd2 : Blk wc pd #[.bool mrk, .int .u8 typ, .int .u16 seq, .int .u32 time, .int .u32 ssrc, .slice av nv cv, .bool ext, .int .u16 prof, .string data, .string pay, .int .i64 pad] PT := hbd
              obtain ⟨d0, d1, d2, d3, d4, d5, d6, d7, d8, d9, d10⟩ := cells11 hbd2
              have HF := Lib.hid (put11_blk hbz (.bool mrk) (.int .u8 typ) (.int .u16 seq) (.int .u32 time) (.int .u32 ssrc) (.slice av nv cv) (.bool ext) (.int .u16 prof) (.string data) (.string pay) (.int .i64 pad))
              have HN := Lib.hid (put11_turns hn (.inr (Nat.le_refl _)) (.bool mrk) (.int .u8 typ) (.int .u16 seq) (.int .u32 time) (.int .u32 ssrc) (.slice av nv cv) (.bool ext) (.int .u16 prof) (.string data) (.string pay) (.int .i64 pad))
              have HO2 := Lib.hid (own_turns HO.out (put11_turns (Turns.refl (· = w.heap.size) wc) (.inl rfl) (.bool mrk) (.int .u8 typ) (.int .u16 seq) (.int .u32 time) (.int .u32 ssrc) (.slice av nv cv) (.bool ext) (.int .u16 prof) (.string data) (.string pay) (.int .i64 pad)) (fun g hg hk => hv3 (by rw [hg, hk])))
              clear hbz hbd hbd2 hn HM9 HO HErr
              go_wp2
              refine (show bodyPost _ _ _ _ _ (put11 wc w.heap.size (.bool mrk) (.int .u8 typ) (.int .u16 seq) (.int .u32 time) (.int .u32 ssrc) (.slice av nv cv) (.bool ext) (.int .u16 prof) (.string data) (.string pay) (.int .i64 pad)) from ?_)
              generalize put11 wc w.heap.size (.bool mrk) (.int .u8 typ) (.int .u16 seq) (.int .u32 time) (.int .u32 ssrc) (.slice av nv cv) (.bool ext) (.int .u16 prof) (.string data) (.string pay) (.int .i64 pad) = w11 at *
              clear z0 z1 z2 z3 z4 z5 z6 z7 z8 z9 z10
              obtain ⟨z0, z1, z2, z3, z4, z5, z6, z7, z8, z9, z10⟩ := cells11 HF.out
              refine bodyPost_ret (v := .tuple #[.agg #[.bool mrk, .int .u8 typ, .int .u16 seq, .int .u32 time, .int .u32 ssrc, .slice av nv cv, .bool ext, .int .u16 prof, .string data, .string pay, .int .i64 pad], .int .i64 0]) (by simp [results, Tryz.results16, go_sem, z0, z1, z2, z3, z4, z5, z6, z7, z8, z9, z10]) rfl ?_
              refine ⟨.slice av nv cv, ?_, HN.out, ?_⟩
              · rw [HPP.out.1, HPP.out.2]; rfl
              · rw [HPP.out.2]; exact HO2.out
            · have heb : (z != 0) = true := by simp [he]
              have HPP : Hid (outE s0.data.toList = z ∧ outP s0.data.toList = zero) := by
                have e1 : outE s0.data.toList = z := by rw [HOE.out, HAE.out, HXE.out]; exact HST.out.symm
                refine Lib.hid ⟨e1, ?_⟩
                rw [HOP.out, if_neg (by rw [e1]; exact he)]
              have HF := Lib.hid (put11_blk hbz (.bool false) (.int .u8 0) (.int .u16 0) (.int .u32 0) (.int .u32 0) (.slice none 0 0) (.bool false) (.int .u16 0) (.string ⟨#[]⟩) (.string ⟨#[]⟩) (.int .i64 0))
              have HN := Lib.hid (put11_turns HM9.out.n (.inr (Nat.le_refl _)) (.bool false) (.int .u8 0) (.int .u16 0) (.int .u32 0) (.int .u32 0) (.slice none 0 0) (.bool false) (.int .u16 0) (.string ⟨#[]⟩) (.string ⟨#[]⟩) (.int .i64 0))
              clear hbz HM9 HErr he
              go_wp2
              refine (show bodyPost _ _ _ _ _ (put11 wc w.heap.size (.bool false) (.int .u8 0) (.int .u16 0) (.int .u32 0) (.int .u32 0) (.slice none 0 0) (.bool false) (.int .u16 0) (.string ⟨#[]⟩) (.string ⟨#[]⟩) (.int .i64 0)) from ?_)
              generalize put11 wc w.heap.size (.bool false) (.int .u8 0) (.int .u16 0) (.int .u32 0) (.int .u32 0) (.slice none 0 0) (.bool false) (.int .u16 0) (.string ⟨#[]⟩) (.string ⟨#[]⟩) (.int .i64 0) = w11 at *
              clear z0 z1 z2 z3 z4 z5 z6 z7 z8 z9 z10
              obtain ⟨z0, z1, z2, z3, z4, z5, z6, z7, z8, z9, z10⟩ := cells11 HF.out
              refine bodyPost_ret (v := .tuple #[.agg #[.bool false, .int .u8 0, .int .u16 0, .int .u32 0, .int .u32 0, .slice none 0 0, .bool false, .int .u16 0, .string ⟨#[]⟩, .string ⟨#[]⟩, .int .i64 0], .int .i64 z]) (by simp [results, Tryz.results16, go_sem, z0, z1, z2, z3, z4, z5, z6, z7, z8, z9, z10]) rfl ?_
              refine ⟨.slice none 0 0, ?_, HN.out, ?_⟩
              · rw [HPP.out.1, HPP.out.2]; rfl
              · rw [HPP.out.2]; exact World.ownsRow_nil _ _ _ _
end Go.Proofs.YtcppibjllaablaaGreat.rp

/-
  Reading back what a list of bytes holds: octet.Reader's calls, front to back.
-/
namespace Go.Proofs.YtcppibjllaablaaGreat.rd
open Go.RowKit mem
set_option linter.unusedVariables false

/-- a reader at p with the bytes l left, and no error -/
abbrev Rl (w : World) (p : Nat) (l : List UInt8) : Prop := Rd w p ⟨l.toArray⟩ 0
def Read1 (w w' : World) (p : Nat) (l : List UInt8) : Prop := Rl w' p l ∧ Turns (· = p) w w'

theorem bytes_list (p : Nat) (a r : List UInt8) (n : Int) (hn : n = (a.length : Int)) (w : World) (h : Rl w p (a ++ r)) (hs : (a ++ r).length ≤ 4611686018427387904) :
    Calls Tryz.prog 83 #[.pointer (some ⟨p, 0, none⟩), .int .i64 n] w fun en w' => en = .returned (.string ⟨a.toArray⟩) ∧ Read1 w w' p r := by
  subst hn
  have := bytes p _ 0 a.length w h hs
  unfold Takes at this
  rw [oref.takeB_mk, oref.takeS_mk, oref.takeE_mk] at this
  exact this
theorem num_list (p : Nat) (x n : Int) (N : Nat) (hN : lim n = (N : Int)) (hx : 0 ≤ x) (r : List UInt8) (w : World) (h : Rl w p (wr.be N x ++ r)) (hs : (wr.be N x ++ r).length ≤ 4611686018427387904) :
    Calls Tryz.prog 82 #[.pointer (some ⟨p, 0, none⟩), .int .i64 n] w fun en w' => en = .returned (.int .u64 (x % 256 ^ N)) ∧ Read1 w w' p r := by
  have := num p _ 0 n w h hs
  unfold Takes at this
  have h1 := oref.takeS_mk (wr.be N x) r 0
  have h2 := oref.takeE_mk (wr.be N x) r 0
  rw [wr.be_length] at h1 h2
  rw [oref.numV_be n x N hN hx, hN, h1, h2] at this
  exact this

theorem u8_list (p : Nat) (x : Int) (hx : 0 ≤ x) (hx' : x ≤ 255) (r : List UInt8) (w : World) (h : Rl w p (wr.be 1 x ++ r)) (hs : (wr.be 1 x ++ r).length ≤ 4611686018427387904) :
    Calls Tryz.prog 42 #[.pointer (some ⟨p, 0, none⟩)] w fun en w' => en = .returned (.int .u8 x) ∧ Read1 w w' p r := by
  have := oref.ru8 p _ 0 w h hs
  unfold Takes at this
  have h1 := oref.takeS_mk (wr.be 1 x) r 0
  have h2 := oref.takeE_mk (wr.be 1 x) r 0
  rw [wr.be_length] at h1 h2
  rw [oref.numV_be 1 x 1 (by decide) hx, show x % 256 ^ 1 = x from by omega, show ((1 : Nat) : Int) = 1 from rfl] at *
  rw [h1, h2] at this
  exact this

theorem u16_list (p : Nat) (x : Int) (hx : 0 ≤ x) (hx' : x ≤ 65535) (r : List UInt8) (w : World) (h : Rl w p (wr.be 2 x ++ r)) (hs : (wr.be 2 x ++ r).length ≤ 4611686018427387904) :
    Calls Tryz.prog 44 #[.pointer (some ⟨p, 0, none⟩)] w fun en w' => en = .returned (.int .u16 x) ∧ Read1 w w' p r := by
  have := oref.ru16 p _ 0 w h hs
  unfold Takes at this
  have h1 := oref.takeS_mk (wr.be 2 x) r 0
  have h2 := oref.takeE_mk (wr.be 2 x) r 0
  rw [wr.be_length] at h1 h2
  rw [oref.numV_be 2 x 2 (by decide) hx, show x % 256 ^ 2 = x from by omega, show ((2 : Nat) : Int) = 2 from rfl] at *
  rw [h1, h2] at this
  exact this

theorem u32_list (p : Nat) (x : Int) (hx : 0 ≤ x) (hx' : x ≤ 4294967295) (r : List UInt8) (w : World) (h : Rl w p (wr.be 4 x ++ r)) (hs : (wr.be 4 x ++ r).length ≤ 4611686018427387904) :
    Calls Tryz.prog 45 #[.pointer (some ⟨p, 0, none⟩)] w fun en w' => en = .returned (.int .u32 x) ∧ Read1 w w' p r := by
  have := oref.ru32 p _ 0 w h hs
  unfold Takes at this
  have h1 := oref.takeS_mk (wr.be 4 x) r 0
  have h2 := oref.takeE_mk (wr.be 4 x) r 0
  rw [wr.be_length] at h1 h2
  rw [oref.numV_be 4 x 4 (by decide) hx, show x % 256 ^ 4 = x from by omega, show ((4 : Nat) : Int) = 4 from rfl] at *
  rw [h1, h2] at this
  exact this

end Go.Proofs.YtcppibjllaablaaGreat.rd

/-
  OctetParts: bytes read in any parts, one behind the other, are all of them; what is padded is a multiple, and begins with what was put.
-/
namespace Go.Proofs.YtcppibjllaablaaGreat.oref
open Go.RowKit mem rd wr
set_option linter.unusedVariables false

theorem pad_nat (p : Nat) (q : Option Nat) (xs : List UInt8) (t : Nat) (w : World) (h : Wr w p q xs) (ht : 1 ≤ t) (hto : t ≤ 1048576) (hmax : xs.length ≤ 70368744177664) :
    Calls Tryz.prog 99 #[.pointer (some ⟨p, 0, none⟩), .int .i64 t] w fun en w' => en = .returned (.pointer (some ⟨p, 0, none⟩)) ∧ Wrote w w' p q (xs ++ List.replicate (padN xs.length t) 0) := by
  by_cases h1 : t = 1
  · subst h1
    have e : padN xs.length 1 = 0 := by unfold padN; omega
    rw [e, List.replicate_zero, List.append_nil]
    exact pad_one p q xs 1 w h (by omega)
  · exact pad_many p q xs t w h (by omega) hto hmax


/-- the reader, and what has been read -/
def Part (w0 wr : World) (P : Nat) (l done rest : List UInt8) : Prop := Rl wr P rest ∧ done ++ rest = l ∧ Below w0.heap.size w0 wr

theorem part_next {w0 wr w8 : World} {P : Nat} {l done rest A B : List UInt8} (h : Part w0 wr P l done rest) (h8 : Read1 wr.drew w8 P B) (he : (done ++ A) ++ B = l) (hP : w0.heap.size ≤ P := by omega) : Part w0 w8 P l (done ++ A) B :=
  ⟨h8.1, he, h.2.2.trans ((Turns.of_drew h8.2).below h.2.2.size (fun k _ hk => by omega))⟩

theorem rest_list (P : Nat) (l : List UInt8) (w : World) (h : Rl w P l) (hs : l.length ≤ 4611686018427387904) :
    Calls Tryz.prog 47 #[.pointer (some ⟨P, 0, none⟩)] w fun en w' => en = .returned (.string ⟨l.toArray⟩) ∧ Read1 w w' P [] := by
  have := rest P ⟨l.toArray⟩ 0 w h hs
  unfold Takes at this
  have h1 := takeB_mk l []
  have h2 := takeS_mk l [] 0
  have h3 := takeE_mk l [] 0
  rw [List.append_nil] at h1 h2 h3
  rw [size_mk, h1, h2, h3] at this
  exact this

theorem cat_size (a b : List UInt8) : (⟨a.toArray⟩ : ByteArray).size + (⟨b.toArray⟩ : ByteArray).size = (a ++ b).length := by rw [size_mk, size_mk, List.length_append]

end Go.Proofs.YtcppibjllaablaaGreat.oref

/-
  The writer's calls inside one statement that leaves its order open.
-/
namespace Go.Proofs.YtcppibjllaablaaGreat.oref
open Go.RowKit mem rd wr
set_option linter.unusedVariables false

/-- what one number's line writes -/
def one (N : Nat) (x : Int) : List UInt8 := be N x ++ be N x ++ be 1 x ++ be 2 x ++ be 4 x
def upto (N : Nat) (z : Nat → Int) (k : Nat) : List UInt8 := (List.range k).flatMap fun i => one N (z i)
theorem one_length (N : Nat) (x : Int) : (one N x).length = 2 * N + 7 := by unfold one; simp only [List.length_append, be_length]; omega
theorem upto_succ (N : Nat) (z : Nat → Int) (k : Nat) : upto N z (k + 1) = upto N z k ++ one N (z k) := by
  unfold upto; rw [List.range_succ, List.flatMap_append, List.flatMap_cons, List.flatMap_nil, List.append_nil]
theorem upto_length (N : Nat) (z : Nat → Int) (k : Nat) : (upto N z k).length = k * (2 * N + 7) := by
  induction k with
  | zero => simp [upto]
  | succ k ih => rw [upto_succ, List.length_append, ih, one_length]; exact (Nat.succ_mul k (2 * N + 7)).symm


/-- The writer at p, over W0, in the middle of one statement: the bytes ys; the blocks of arguments that lie ready. -/
def Now (W0 W : World) (p : Nat) (ys : List UInt8) (args : List (Nat × Array Value × TypeId)) : Prop :=
  ∃ q, Wr W p q ys ∧ Turns (fun k => k = p) W0 W ∧ (q = none ∨ ∃ g, q = some g ∧ W0.heap.size ≤ g) ∧ ∀ a ∈ args, Blk W a.1 a.2.1 a.2.2 ∧ a.1 ≠ p ∧ q ≠ some a.1

theorem Now.of {W0 W : World} {p : Nat} {ys : List UInt8} (h : Wrote W0 W p none ys) : Now W0 W p ys [] := by
  obtain ⟨q, hb, ht, hq⟩ := h
  exact ⟨q, hb, ht.mono (fun k _ h => by rcases h with h | h; exact h; cases h), hq, fun a ha => by cases ha⟩
theorem Now.done {W0 W : World} {p : Nat} {ys : List UInt8} {args : List (Nat × Array Value × TypeId)} (h : Now W0 W p ys args) : Wrote W0 W p none ys := by
  obtain ⟨q, hb, ht, hq, _⟩ := h
  exact ⟨q, hb, ht.mono (fun k _ h => .inl h), hq⟩
theorem Now.drew {W0 W : World} {p : Nat} {ys : List UInt8} {args : List (Nat × Array Value × TypeId)} (h : Now W0 W p ys args) : Now W0 W.drew p ys args := by
  obtain ⟨q, hb, ht, hq, ha⟩ := h
  exact ⟨q, hb, ht.drew, hq, ha⟩
theorem Now.alloc {W0 W : World} {p : Nat} {ys : List UInt8} {args : List (Nat × Array Value × TypeId)} (h : Now W0 W p ys args) (cs : Array Value) (t : TypeId) : Now W0 (W.alloc (.cells cs t)) p ys ((W.heap.size, cs, t) :: args) := by
  obtain ⟨q, hb, ht, hq, ha⟩ := h
  have hn : New W (W.alloc (.cells cs t)) := (Turns.refl _ W).alloc _
  refine ⟨q, hb.turns hn (fun h => h) (fun _ _ h => h), ht.alloc _, hq, fun a h => ?_⟩
  rcases List.mem_cons.1 h with rfl | h
  · refine ⟨Blk.new W cs t, ?_, ?_⟩
    · have := hb.lt; show W.heap.size ≠ p; omega
    · intro e; have := hb.qlt _ e; omega
  · exact ⟨(ha a h).1.alloc _, (ha a h).2⟩
/-- a call that writes to it -/
theorem Now.call {W0 W w2 : World} {p : Nat} {zs : List UInt8} {args : List (Nat × Array Value × TypeId)} {q : Option Nat}
    (ht : Turns (fun k => k = p) W0 W) (hq : q = none ∨ ∃ g, q = some g ∧ W0.heap.size ≤ g) (ha : ∀ a ∈ args, Blk W a.1 a.2.1 a.2.2 ∧ a.1 ≠ p ∧ q ≠ some a.1) (h : Wrote W w2 p q zs) : Now W0 w2 p zs args := by
  obtain ⟨q2, hb2, ht2, hq2⟩ := h
  refine ⟨q2, hb2, ht.trans (ht2.mono ?_), ?_, fun a h => ?_⟩
  · intro k _ hk
    rcases hk with hk | hk
    · exact .inl hk
    · rcases hq with rfl | ⟨g, rfl, hg⟩
      · cases hk
      · injection hk with hk; subst hk; exact .inr hg
  · rcases hq2 with rfl | ⟨g, rfl, hg⟩
    · exact hq
    · exact .inr ⟨g, rfl, Nat.le_trans ht.size hg⟩
  · obtain ⟨hblk, hne, hnq⟩ := ha a h
    refine ⟨ht2.blk hblk (by rintro (h | h); exact hne h; exact hnq h.symm), hne, ?_⟩
    rcases hq2 with rfl | ⟨g, rfl, hg⟩
    · exact hnq
    · intro e; injection e with e; have := hblk.lt; omega
theorem Now.cell {W0 W : World} {p : Nat} {ys : List UInt8} {args : List (Nat × Array Value × TypeId)} (h : Now W0 W p ys args) {b o : Nat} (hb : b < W0.heap.size) (hne : b ≠ p) : W.cell? ⟨b, o, none⟩ = W0.cell? ⟨b, o, none⟩ ∧ b < W.heap.size := by
  obtain ⟨q, _, ht, _⟩ := h
  exact ⟨ht.cell hb hne, by have := ht.size; omega⟩

theorem q_unique {W : World} {p : Nat} {q q' : Option Nat} {xs ys : List UInt8} (h : Wr W p q xs) (h' : Wr W p q' ys) : q = q' := by
  obtain ⟨v, hv, hb, _⟩ := h
  obtain ⟨v', hv', hb', _⟩ := h'
  unfold Blk at hb hb'
  rw [hb] at hb'
  simp only [Option.some.injEq, Obj.cells.injEq] at hb'
  have e : v = v' := by have := hb'.1; simpa using this
  rw [← hv, ← hv', e]

/-- what a call leaves: whatever lay ready lies ready -/
def After (W0 W w' : World) (p : Nat) (ys zs : List UInt8) : Prop :=
  (∀ args, Now W0 W p ys args → Now W0 w' p zs args) ∧ (∀ b o, b < W0.heap.size → b ≠ p → w'.cell? ⟨b, o, none⟩ = W0.cell? ⟨b, o, none⟩ ∧ b < w'.heap.size)
theorem After.mk {W0 W w' : World} {p : Nat} {ys zs : List UInt8} {q : Option Nat} (hb : Wr W p q ys) (ht : Turns (fun k => k = p) W0 W) (hq : q = none ∨ ∃ g, q = some g ∧ W0.heap.size ≤ g) (h : Wrote W w' p q zs) : After W0 W w' p ys zs := by
  refine ⟨fun args hn => ?_, fun b o hb0 hne => ?_⟩
  · obtain ⟨q', hb', ht', hq', ha'⟩ := hn
    obtain rfl := q_unique hb hb'
    exact Now.call ht hq ha' h
  · exact Now.cell (Now.call ht hq (args := []) (fun a ha => by cases ha) h) hb0 hne

theorem num_at {W0 W : World} {p : Nat} {ys : List UInt8} {B : Nat} {n x : Int} {N : Nat} (hN : rd.lim n = (N : Int)) (hx : 0 ≤ x ∧ x ≤ 18446744073709551615) (hl : ys.length ≤ 1000)
    (h : ∃ args, Now W0 W p ys args ∧ (B, #[Value.int .u64 x, .int .u64 x], 183) ∈ args) :
    Calls Tryz.prog 85 #[.pointer (some ⟨p, 0, none⟩), .int .i64 n, .slice (some ⟨B, 0, none⟩) 2 2] W fun en w' => en = .returned (.pointer (some ⟨p, 0, none⟩)) ∧ After W0 W w' p ys (ys ++ be N x ++ be N x) := by
  obtain ⟨args, ⟨q, hb, ht, hq, ha⟩, hm⟩ := h
  obtain ⟨hblk, hne, hnq⟩ := ha _ hm
  refine (num p q ys n N hN B 2 2 (fun _ => x) W hb (fun i hi => ?_) (fun _ _ => hx) hblk.lt hne hnq (by omega)).mono ?_
  · match i, hi with
    | 0, _ => exact hblk.cell 0
    | 1, _ => exact hblk.cell 1
  · rintro e w' ⟨rfl, hw⟩
    rw [show ((List.range 2).flatMap fun _ => be N x) = be N x ++ be N x from by simp [List.range_succ], ← List.append_assoc] at hw
    exact ⟨rfl, After.mk hb ht hq hw⟩
theorem u8_at {W0 W : World} {p : Nat} {ys : List UInt8} {B : Nat} {x : Int} (hx : 0 ≤ x ∧ x ≤ 255) (hl : ys.length ≤ 1000)
    (h : ∃ args, Now W0 W p ys args ∧ (B, #[Value.int .u8 x], 5) ∈ args) :
    Calls Tryz.prog 50 #[.pointer (some ⟨p, 0, none⟩), .slice (some ⟨B, 0, none⟩) 1 1] W fun en w' => en = .returned (.pointer (some ⟨p, 0, none⟩)) ∧ After W0 W w' p ys (ys ++ be 1 x) := by
  obtain ⟨args, ⟨q, hb, ht, hq, ha⟩, hm⟩ := h
  obtain ⟨hblk, hne, hnq⟩ := ha _ hm
  have e1 : b8 (Go.Proofs.YtcppibjllaablaaGreat.wr.byteOf x) = .int .u8 x := by unfold b8; rw [byteOf_toNat]; rw [show x % 256 = x from by omega]
  have e2 : be 1 x = [Go.Proofs.YtcppibjllaablaaGreat.wr.byteOf x] := by simp [be]
  rw [e2]
  refine (u8 p q ys [Go.Proofs.YtcppibjllaablaaGreat.wr.byteOf x] B 1 W hb (by simp only [List.map_cons, List.map_nil, e1]; exact hblk) (by simp) (by simp; omega)).mono ?_
  rintro e w' ⟨rfl, hw⟩
  exact ⟨rfl, After.mk hb ht hq hw⟩
theorem u16_at {W0 W : World} {p : Nat} {ys : List UInt8} {B : Nat} {x : Int} (hx : 0 ≤ x ∧ x ≤ 65535) (hl : ys.length ≤ 1000)
    (h : ∃ args, Now W0 W p ys args ∧ (B, #[Value.int .u16 x], 71) ∈ args) :
    Calls Tryz.prog 53 #[.pointer (some ⟨p, 0, none⟩), .slice (some ⟨B, 0, none⟩) 1 1] W fun en w' => en = .returned (.pointer (some ⟨p, 0, none⟩)) ∧ After W0 W w' p ys (ys ++ be 2 x) := by
  obtain ⟨args, ⟨q, hb, ht, hq, ha⟩, hm⟩ := h
  obtain ⟨hblk, hne, hnq⟩ := ha _ hm
  refine (u16 p q ys B 1 1 (fun _ => x) W hb (fun i hi => match i, hi with | 0, _ => hblk.cell 0) (fun _ _ => hx) hblk.lt hne hnq (by omega)).mono ?_
  rintro e w' ⟨rfl, hw⟩
  rw [show ((List.range 1).flatMap fun _ => be 2 x) = be 2 x from by simp] at hw
  exact ⟨rfl, After.mk hb ht hq hw⟩
theorem u32_at {W0 W : World} {p : Nat} {ys : List UInt8} {B : Nat} {x : Int} (hx : 0 ≤ x ∧ x ≤ 4294967295) (hl : ys.length ≤ 1000)
    (h : ∃ args, Now W0 W p ys args ∧ (B, #[Value.int .u32 x], 72) ∈ args) :
    Calls Tryz.prog 54 #[.pointer (some ⟨p, 0, none⟩), .slice (some ⟨B, 0, none⟩) 1 1] W fun en w' => en = .returned (.pointer (some ⟨p, 0, none⟩)) ∧ After W0 W w' p ys (ys ++ be 4 x) := by
  obtain ⟨args, ⟨q, hb, ht, hq, ha⟩, hm⟩ := h
  obtain ⟨hblk, hne, hnq⟩ := ha _ hm
  refine (u32 p q ys B 1 1 (fun _ => x) W hb (fun i hi => match i, hi with | 0, _ => hblk.cell 0) (fun _ _ => hx) hblk.lt hne hnq (by omega)).mono ?_
  rintro e w' ⟨rfl, hw⟩
  rw [show ((List.range 1).flatMap fun _ => be 4 x) = be 4 x from by simp] at hw
  exact ⟨rfl, After.mk hb ht hq hw⟩

theorem puts_done {W0 W w' : World} {p : Nat} {Y : List UInt8} {args : List (Nat × Array Value × TypeId)} (N : Nat) (x : Int) (hx : 0 ≤ x)
    (h : After W0 W w' p (Y ++ be N x ++ be N x ++ be 1 (x % 256) ++ be 2 (x % 65536)) (Y ++ be N x ++ be N x ++ be 1 (x % 256) ++ be 2 (x % 65536) ++ be 4 (x % 4294967296)))
    (hn : Now W0 W p (Y ++ be N x ++ be N x ++ be 1 (x % 256) ++ be 2 (x % 65536)) args) : Wrote W0 w' p none (Y ++ one N x) := by
  have h1 := be_mod 1 1 x hx (Nat.le_refl _)
  have h2 := be_mod 2 2 x hx (Nat.le_refl _)
  have h4 := be_mod 4 4 x hx (Nat.le_refl _)
  have := (h.1 _ hn).done
  rw [show x % 256 = x % 256 ^ 1 from rfl, h1, show x % 65536 = x % 256 ^ 2 from rfl, h2, show x % 4294967296 = x % 256 ^ 4 from rfl, h4] at this
  unfold one
  simpa only [List.append_assoc] using this
theorem dcell {W : World} {a : Addr} {r : Option Value} (h : W.cell? a = r) : W.drew.cell? a = r := h
theorem acell {W : World} {o : Obj} {b k : Nat} {r : Option Value} (hl : b < W.heap.size) (h : W.cell? ⟨b, k, none⟩ = r) : (W.alloc o).cell? ⟨b, k, none⟩ = r := (World.cell?_alloc_past _ _ _ hl).trans h
end Go.Proofs.YtcppibjllaablaaGreat.oref

/-
  rtp: what is written; first, second, Len, the sources' numbers.
-/
namespace Go.Proofs.YtcppibjllaablaaGreat.rp
open Go.RowKit mem rd wr oref sq
set_option linter.unusedVariables false

/-- a packet that may be -/
structure V (p : P) : Prop where
  typ : 0 ≤ p.typ ∧ p.typ ≤ 127
  seq : 0 ≤ p.seq ∧ p.seq ≤ 65535
  time : 0 ≤ p.time ∧ p.time ≤ 4294967295
  ssrc : 0 ≤ p.ssrc ∧ p.ssrc ≤ 4294967295
  cs : ∀ x ∈ p.cs, 0 ≤ x ∧ x ≤ 4294967295
  csn : p.cs.length ≤ 15
  prof : 0 ≤ p.prof ∧ p.prof ≤ 65535
  pad : 0 ≤ p.pad ∧ p.pad ≤ 255
  data : p.data.size % 4 = 0
  none : p.ext = false → p.prof = 0 ∧ p.data.size = 0
  len : 12 + 4 * p.cs.length + p.pay.size + p.pad.toNat + (if p.ext then 4 + p.data.size else 0) ≤ 1500

def bitI (b : Bool) (v : Int) : Int := if b then v else 0
def h1 (p : P) : Int := 128 + (p.cs.length : Int) + bitI p.ext 16 + bitI (decide (0 < p.pad)) 32
def h2 (p : P) : Int := p.typ + bitI p.mrk 128
/-- up to the extension -/
def tx1 (p : P) : List UInt8 := be 1 (h1 p) ++ be 1 (h2 p) ++ be 2 p.seq ++ be 4 p.time ++ be 4 p.ssrc ++ p.cs.flatMap (be 4)
def txE (p : P) : List UInt8 := if p.ext then be 2 p.prof ++ be 2 ((p.data.size / 4 : Nat) : Int) ++ p.data.data.toList else []
def txP (p : P) : List UInt8 := if 0 < p.pad then List.replicate (p.pad - 1).toNat 0 ++ be 1 p.pad else []
def tx (p : P) : List UInt8 := tx1 p ++ txE p ++ p.pay.data.toList ++ txP p

theorem or_h1 : ∀ n : Nat, n < 16 → bits .or .u8 128 n = 128 + n ∧ bits .or .u8 (128 + (n : Int)) 16 = 144 + n ∧ bits .or .u8 (128 + (n : Int)) 32 = 160 + n ∧ bits .or .u8 (144 + (n : Int)) 32 = 176 + n := by decide +kernel
theorem and15_nat : ∀ n : Nat, n < 16 → bits .and .i64 n 15 = n := by decide +kernel
theorem or128_nat : ∀ n : Nat, n < 128 → bits .or .u8 n 128 = n + 128 := vp.or128_nat

section
variable {w : World} {p : Nat} {d : P} {v : Value} {t : TypeId} (h : Blk w p (pc d v) t)
include h
theorem pc0 : w.cell? ⟨p, 0, none⟩ = some (.bool d.mrk) := h.cell 0
theorem pc1 : w.cell? ⟨p, 1, none⟩ = some (.int .u8 d.typ) := h.cell 1
end

set_option maxHeartbeats 2000000 in
theorem first (p : P) (hv : V p) (a : Option Addr) (c : Nat) (w : World) :
    Calls Tryz.prog 51 #[.agg (pc p (.slice a p.cs.length c))] w fun e w' => e = .returned (.int .u8 (h1 p)) ∧ New w w' := by
  have hn := hv.csn
  have hpd := hv.pad
  have HH : Hid (h1 p = 128 + (p.cs.length : Int) + bitI p.ext 16 + bitI (decide (0 < p.pad)) 32) := Lib.hid rfl
  obtain ⟨e1, e2, e3, e4⟩ := or_h1 p.cs.length (by omega)
  have e5 := and15_nat p.cs.length (by omega)
  obtain ⟨mrk, typ, seq, time, ssrc, cs, ext, prof, data, pay, pad⟩ := p
  simp only [pc] at *
  generalize cs.length = n at *
  have hcv : IntKind.u8.wrap pad = pad := by rw [IntKind.wrap_u8]; omega
  have hcn : IntKind.u8.wrap (n : Int) = (n : Int) := by rw [IntKind.wrap_u8]; omega
  have hN : New w (w.alloc (.cells #[.bool mrk, .int .u8 typ, .int .u16 seq, .int .u32 time, .int .u32 ssrc, .slice a n c, .bool ext, .int .u16 prof, .string data, .string pay, .int .i64 pad] PT)) := (Turns.refl _ _).alloc _
  have HN := Lib.hid hN
  clear hN
  cases ext
  · by_cases hp : 0 < pad
    · have hp' : decide (0 < pad) = true := decide_eq_true hp
      rw [hp'] at HH
      go_enter Tryz.func51, Tryz.ntmps51
      go_wp2
      go_ret
      refine ⟨?_, HN.out⟩
      rw [HH.out]
      exact ret_int (by simp [bitI]; omega)
    · have hp' : decide (0 < pad) = false := decide_eq_false hp
      rw [hp'] at HH
      go_enter Tryz.func51, Tryz.ntmps51
      go_wp2
      go_ret
      refine ⟨?_, HN.out⟩
      rw [HH.out]
      exact ret_int (by simp [bitI])
  · by_cases hp : 0 < pad
    · have hp' : decide (0 < pad) = true := decide_eq_true hp
      rw [hp'] at HH
      go_enter Tryz.func51, Tryz.ntmps51
      go_wp2
      go_ret
      refine ⟨?_, HN.out⟩
      rw [HH.out]
      exact ret_int (by simp [bitI]; omega)
    · have hp' : decide (0 < pad) = false := decide_eq_false hp
      rw [hp'] at HH
      go_enter Tryz.func51, Tryz.ntmps51
      go_wp2
      go_ret
      refine ⟨?_, HN.out⟩
      rw [HH.out]
      exact ret_int (by simp [bitI]; omega)

set_option maxHeartbeats 2000000 in
theorem second (p : P) (hv : V p) (a : Option Addr) (n c : Nat) (w : World) :
    Calls Tryz.prog 52 #[.agg (pc p (.slice a n c))] w fun e w' => e = .returned (.int .u8 (h2 p)) ∧ New w w' := by
  have ht := hv.typ
  have HH : Hid (h2 p = p.typ + bitI p.mrk 128) := Lib.hid rfl
  have h127 := vp.and127 p.typ (by omega) (by omega)
  rw [show p.typ % 128 = p.typ from by omega] at h127
  have hor := vp.or128 p.typ ht.1 (by omega)
  obtain ⟨mrk, typ, seq, time, ssrc, cs, ext, prof, data, pay, pad⟩ := p
  simp only [pc] at *
  have hN : New w (w.alloc (.cells #[.bool mrk, .int .u8 typ, .int .u16 seq, .int .u32 time, .int .u32 ssrc, .slice a n c, .bool ext, .int .u16 prof, .string data, .string pay, .int .i64 pad] PT)) := (Turns.refl _ _).alloc _
  have HN := Lib.hid hN
  clear hN
  cases mrk
  · go_enter Tryz.func52, Tryz.ntmps52
    go_wp2
    go_ret
    refine ⟨?_, HN.out⟩
    rw [HH.out]
    exact ret_int (by simp [bitI])
  · go_enter Tryz.func52, Tryz.ntmps52
    go_wp2
    go_ret
    refine ⟨?_, HN.out⟩
    rw [HH.out]
    exact ret_int (by simp [bitI])

/-- Len's answer -/
def lenI (p : P) : Int := 12 + 4 * (p.cs.length : Int) + (p.pay.size : Int) + p.pad + (if p.ext then 4 + (p.data.size : Int) else 0)
set_option maxHeartbeats 1000000 in
theorem u32_row (p : Nat) (q : Option Nat) (xs : List UInt8) (a : Option Addr) (c m : Nat) (z : Nat → Int) (w : World) (h : Wr w p q xs)
    (hc : m = 0 ∨ ∃ B off, a = some ⟨B, off, none⟩ ∧ B < w.heap.size ∧ B ≠ p ∧ q ≠ some B ∧ ∀ i, i < m → w.cell? ⟨B, off + i, none⟩ = some (.int .u32 (z i))) (hz : ∀ i, i < m → 0 ≤ z i ∧ z i ≤ 4294967295) (hmax : xs.length + 8 * m ≤ 140737488355328) :
    Calls Tryz.prog 54 #[.pointer (some ⟨p, 0, none⟩), .slice a m c] w fun en w' => en = .returned (.pointer (some ⟨p, 0, none⟩)) ∧ Wrote w w' p q (xs ++ (List.range m).flatMap fun i => be 4 (z i)) := by
  have HC := Lib.hid hc
  have HZ := Lib.hid hz
  clear hc hz
  go_enter Tryz.func54, Tryz.ntmps54
  go_wp2
  go_loopw [9] (fun j wr => ∃ k : Nat, k ≤ m ∧ j = .int .i64 k ∧ Wrote w wr p q (xs ++ (List.range k).flatMap fun i => be 4 (z i))) (fun j _ => m - (intOf j).toNat)
  case atStart => exact ⟨0, Nat.zero_le _, rfl, by simpa using Wrote.refl h⟩
  case round =>
    obtain ⟨k, hk, rfl, hwr⟩ := hrel
    by_cases hlt : k < m
    · obtain ⟨B, off, rfl, hB, hBp, hBq, hcell⟩ := HC.out.resolve_left (by omega)
      have hck : wr.cell? ⟨B, off + k, none⟩ = some (.int .u32 (z k)) := ((Wrote.turns hwr).cell hB (by simp [hBp]; exact fun h => hBq h.symm)).trans (hcell k hlt)
      have hzk := HZ.out k hlt
      obtain ⟨hz0, hz1⟩ := hzk
      obtain ⟨q1, hw1, hqp, hpl, hql, hwa, _, hst⟩ := Wrote.call hwr
      have hN := num p q1 (xs ++ (List.range k).flatMap fun i => be 4 (z i)) 4 4 (by decide) wr.heap.size 1 1 (fun _ => z k) (wr.alloc (.cells #[.int .u64 (z k)] 183)) (hwa _)
        (fun i hi => by obtain rfl : i = 0 := by omega
                        exact (Blk.new wr #[.int .u64 (z k)] 183).cell 0) (fun _ _ => ⟨hz0, by omega⟩) (by simp) (by omega) (fun h => by have := hql _ h; omega)
        (by rw [List.length_append, bes_length]; omega)
      have HN := Lib.hid hN
      have HS := Lib.hid hst
      have HF := Lib.hid (flat_add 4 z xs k)
      clear hN hst hwa hw1 hwr HC HZ hcell
      go_wp2_with (go_at_call 85; refine (HN.out).mono ?_; rintro e w' ⟨rfl, hw2⟩)
      have hw3 := HS.out _ _ _ hw2
      rw [show ((List.range 1).flatMap fun _ => be 4 (z k)) = be 4 (z k) from by simp] at hw3
      rw [HF.out] at hw3
      go_roundw
      case rel => exact ⟨k + 1, by omega, by go_num, hw3⟩
      case measure => simp [intOf]; omega
    · obtain rfl : k = m := by omega
      go_wp2
      go_ret
      exact ⟨rfl, hwr⟩

/-- a packet's sources in memory -/
def Row (w : World) (a : Option Addr) (cs : List Int) : Prop := cs.length = 0 ∨ ∃ B off, a = some ⟨B, off, none⟩ ∧ B < w.heap.size ∧ ∀ i, i < cs.length → w.cell? ⟨B, off + i, none⟩ = some (.int .u32 (cs.getD i 0))
theorem Row.new {w w' : World} {a : Option Addr} {cs : List Int} (h : Row w a cs) (k : New w w') : Row w' a cs := by
  rcases h with h | ⟨B, off, rfl, hB, hc⟩
  · exact .inl h
  · exact .inr ⟨B, off, rfl, Nat.lt_of_lt_of_le hB k.size, fun i hi => (k.cell hB (fun h => h)).trans (hc i hi)⟩
end Go.Proofs.YtcppibjllaablaaGreat.rp

/-
  rtp: Text, up to the extension.
-/
namespace Go.Proofs.YtcppibjllaablaaGreat.rp
open Go.RowKit mem rd wr oref sq
set_option linter.unusedVariables false

abbrev Args := List (Nat × Array Value × TypeId)
theorem Now.new {W0 W W' : World} {p : Nat} {ys : List UInt8} {args : Args} (h : Now W0 W p ys args) (k : New W W') : Now W0 W' p ys args := by
  obtain ⟨q, hb, ht, hq, ha⟩ := h
  exact ⟨q, hb.turns k (fun h => h) (fun _ _ h => h), ht.trans (k.mono (fun _ _ h => h.elim)), hq, fun a h => ⟨k.blk (ha a h).1 (fun h => h), (ha a h).2⟩⟩
theorem Now.blk {W0 W : World} {p : Nat} {ys : List UInt8} {args : Args} (h : Now W0 W p ys args) {b : Nat} {cs : Array Value} {t : TypeId} (hm : (b, cs, t) ∈ args) : Blk W b cs t := by
  obtain ⟨q, hb, ht, hq, ha⟩ := h
  exact (ha _ hm).1

theorem u8s_at {W0 W : World} {p : Nat} {ys : List UInt8} {B : Nat} {x y : Int} (hx : 0 ≤ x ∧ x ≤ 255) (hy : 0 ≤ y ∧ y ≤ 255) (hl : ys.length ≤ 1000)
    (h : ∃ args, Now W0 W p ys args ∧ (B, #[Value.int .u8 x, .int .u8 y], 5) ∈ args) :
    Calls Tryz.prog 50 #[.pointer (some ⟨p, 0, none⟩), .slice (some ⟨B, 0, none⟩) 2 2] W fun en w' => en = .returned (.pointer (some ⟨p, 0, none⟩)) ∧ After W0 W w' p ys (ys ++ (be 1 x ++ be 1 y)) := by
  obtain ⟨args, ⟨q, hb, ht, hq, ha⟩, hm⟩ := h
  obtain ⟨hblk, hne, hnq⟩ := ha _ hm
  have e1 : b8 (Go.Proofs.YtcppibjllaablaaGreat.wr.byteOf x) = .int .u8 x := by unfold b8; rw [byteOf_toNat]; rw [show x % 256 = x from by omega]
  have e3 : b8 (Go.Proofs.YtcppibjllaablaaGreat.wr.byteOf y) = .int .u8 y := by unfold b8; rw [byteOf_toNat]; rw [show y % 256 = y from by omega]
  have e2 : be 1 x ++ be 1 y = [Go.Proofs.YtcppibjllaablaaGreat.wr.byteOf x, Go.Proofs.YtcppibjllaablaaGreat.wr.byteOf y] := by simp [be]
  rw [e2]
  refine (u8 p q ys [Go.Proofs.YtcppibjllaablaaGreat.wr.byteOf x, Go.Proofs.YtcppibjllaablaaGreat.wr.byteOf y] B 2 W hb (by simp only [List.map_cons, List.map_nil, e1, e3]; exact hblk) (by simp) (by simp; omega)).mono ?_
  rintro e w' ⟨rfl, hw⟩
  exact ⟨rfl, After.mk hb ht hq hw⟩
theorem u16s_at {W0 W : World} {p : Nat} {ys : List UInt8} {B : Nat} {x y : Int} (hx : 0 ≤ x ∧ x ≤ 65535) (hy : 0 ≤ y ∧ y ≤ 65535) (hl : ys.length ≤ 1000)
    (h : ∃ args, Now W0 W p ys args ∧ (B, #[Value.int .u16 x, .int .u16 y], 71) ∈ args) :
    Calls Tryz.prog 53 #[.pointer (some ⟨p, 0, none⟩), .slice (some ⟨B, 0, none⟩) 2 2] W fun en w' => en = .returned (.pointer (some ⟨p, 0, none⟩)) ∧ After W0 W w' p ys (ys ++ (be 2 x ++ be 2 y)) := by
  obtain ⟨args, ⟨q, hb, ht, hq, ha⟩, hm⟩ := h
  obtain ⟨hblk, hne, hnq⟩ := ha _ hm
  refine (u16 p q ys B 2 2 (fun i => if i = 0 then x else y) W hb (fun i hi => match i, hi with | 0, _ => hblk.cell 0 | 1, _ => hblk.cell 1) (fun i _ => by split; exact hx; exact hy) hblk.lt hne hnq (by omega)).mono ?_
  rintro e w' ⟨rfl, hw⟩
  rw [show ((List.range 2).flatMap fun i => be 2 (if i = 0 then x else y)) = be 2 x ++ be 2 y from by simp [List.range_succ]] at hw
  exact ⟨rfl, After.mk hb ht hq hw⟩
theorem u32s_at {W0 W : World} {p : Nat} {ys : List UInt8} {B : Nat} {x y : Int} (hx : 0 ≤ x ∧ x ≤ 4294967295) (hy : 0 ≤ y ∧ y ≤ 4294967295) (hl : ys.length ≤ 1000)
    (h : ∃ args, Now W0 W p ys args ∧ (B, #[Value.int .u32 x, .int .u32 y], 72) ∈ args) :
    Calls Tryz.prog 54 #[.pointer (some ⟨p, 0, none⟩), .slice (some ⟨B, 0, none⟩) 2 2] W fun en w' => en = .returned (.pointer (some ⟨p, 0, none⟩)) ∧ After W0 W w' p ys (ys ++ (be 4 x ++ be 4 y)) := by
  obtain ⟨args, ⟨q, hb, ht, hq, ha⟩, hm⟩ := h
  obtain ⟨hblk, hne, hnq⟩ := ha _ hm
  refine (u32 p q ys B 2 2 (fun i => if i = 0 then x else y) W hb (fun i hi => match i, hi with | 0, _ => hblk.cell 0 | 1, _ => hblk.cell 1) (fun i _ => by split; exact hx; exact hy) hblk.lt hne hnq (by omega)).mono ?_
  rintro e w' ⟨rfl, hw⟩
  rw [show ((List.range 2).flatMap fun i => be 4 (if i = 0 then x else y)) = be 4 x ++ be 4 y from by simp [List.range_succ]] at hw
  exact ⟨rfl, After.mk hb ht hq hw⟩

theorem row_at {W0 W : World} {p : Nat} {ys : List UInt8} {a : Option Addr} {cs : List Int} {c : Nat} (hp : p < W0.heap.size) (hr : ∃ w, Row w a cs ∧ w.heap.size ≤ p ∧ New w W0) (hz : ∀ x ∈ cs, 0 ≤ x ∧ x ≤ 4294967295) (hl : ys.length ≤ 1000) (hcl : cs.length ≤ 1000)
    (h : ∃ args, Now W0 W p ys args ∧ True) :
    Calls Tryz.prog 54 #[.pointer (some ⟨p, 0, none⟩), .slice a cs.length c] W fun en w' => en = .returned (.pointer (some ⟨p, 0, none⟩)) ∧ After W0 W w' p ys (ys ++ cs.flatMap (be 4)) := by
  obtain ⟨args, ⟨q, hb, ht, hq, ha⟩, _⟩ := h
  obtain ⟨w, hr, hwp, hn⟩ := hr
  have hrow : cs.length = 0 ∨ ∃ B off, a = some ⟨B, off, none⟩ ∧ B < W.heap.size ∧ B ≠ p ∧ q ≠ some B ∧ ∀ i, i < cs.length → W.cell? ⟨B, off + i, none⟩ = some (.int .u32 (cs.getD i 0)) := by
    rcases hr with h | ⟨B, off, rfl, hB, hc⟩
    · exact .inl h
    · refine .inr ⟨B, off, rfl, by have := ht.size; omega, by omega, ?_, fun i hi => ((ht.cell (a := ⟨B, off + i, none⟩) (show B < W0.heap.size by omega) (show ¬ B = p by omega)).trans (hn.cell hB (fun h => h))).trans (hc i hi)⟩
      rcases hq with rfl | ⟨g, rfl, hg⟩
      · simp
      · intro e; injection e with e; omega
  refine (u32_row p q ys a c cs.length (fun i => cs.getD i 0) W hb hrow (fun i hi => hz _ (by simp [List.getD, List.getElem?_eq_getElem hi])) (by omega)).mono ?_
  rintro e w' ⟨rfl, hw⟩
  rw [flat_list] at hw
  exact ⟨rfl, After.mk hb ht hq hw⟩

theorem Now.with {W0 W : World} {p : Nat} {ys : List UInt8} {b : Nat} {cs : Array Value} {t : TypeId} (h : Wrote W0 W p none ys) (hb : Blk W b cs t) (hne : b ≠ p) (hlt : b < W0.heap.size) : Now W0 W p ys [(b, cs, t)] := by
  obtain ⟨q, hw, ht, hq, _⟩ := Now.of h
  refine ⟨q, hw, ht, hq, fun a ha => ?_⟩
  rcases List.mem_cons.1 ha with rfl | ha
  · refine ⟨hb, hne, ?_⟩
    rcases hq with rfl | ⟨g, rfl, hg⟩
    · simp
    · intro e; injection e with e; simp only at e; omega
  · cases ha
theorem put_at {W0 W : World} {p : Nat} {ys : List UInt8} {B : Nat} {s : ByteArray} (hl : ys.length + s.size ≤ 100000)
    (h : ∃ args, Now W0 W p ys args ∧ (B, #[Value.string s], 9) ∈ args) :
    Calls Tryz.prog 55 #[.pointer (some ⟨p, 0, none⟩), .slice (some ⟨B, 0, none⟩) 1 1] W fun en w' => en = .returned (.pointer (some ⟨p, 0, none⟩)) ∧ After W0 W w' p ys (ys ++ s.data.toList) := by
  obtain ⟨args, ⟨q, hb, ht, hq, ha⟩, hm⟩ := h
  obtain ⟨hblk, hne, hnq⟩ := ha _ hm
  refine (put p q ys B 1 1 (fun _ => s) W hb (fun i hi => match i, hi with | 0, _ => hblk.cell 0) hblk.lt hne hnq (by omega) (by simp [size_list]; omega)).mono ?_
  rintro e w' ⟨rfl, hw⟩
  rw [show ((List.range 1).flatMap fun _ => s.data.toList) = s.data.toList from by simp] at hw
  exact ⟨rfl, After.mk hb ht hq hw⟩

theorem rep_zero (m : Nat) : Lib.repeatL [0] m = List.replicate m (0 : UInt8) := by
  induction m with
  | zero => rfl
  | succ m ih => rw [List.replicate_succ, ← ih]; rfl
theorem repeat_any (m : Nat) (hm : m ≤ 1000) (w : World) :
    Calls Tryz.prog 56 #[.string ⟨#[0]⟩, .int .i64 m] w fun e w' => e = .returned (.string ⟨(List.replicate m (0 : UInt8)).toArray⟩) ∧ New w w' := by
  refine (Tryz.strings_Repeat ⟨#[0]⟩ m w (by omega) (by show 1 * m ≤ _; omega)).mono ?_
  rintro e w' ⟨rfl, hb⟩
  refine ⟨?_, (Turns.of_below hb).mono (fun k hk h => by omega)⟩
  show Ending.returned (.string ⟨(Lib.repeatL [0] m).toArray⟩) = _
  rw [rep_zero]
theorem Wrote.new {w wr w' : World} {p : Nat} {q : Option Nat} {ys : List UInt8} (h : Wrote w wr p q ys) (k : New wr w') : Wrote w w' p q ys := vp.Wrote.new h k

theorem h1_bd (p : P) (h : V p) : 0 ≤ h1 p ∧ h1 p ≤ 255 := by
  unfold h1 bitI
  have := h.csn
  split <;> split <;> omega
theorem h2_bd (p : P) (h : V p) : 0 ≤ h2 p ∧ h2 p ≤ 255 := by
  unfold h2 bitI
  have := h.typ
  split <;> omega

/-- what the region's loads read -/
def PCs (mrk : Bool) (typ seq time ssrc : Int) (a : Option Addr) (n c : Nat) (ext : Bool) (prof : Int) (data pay : ByteArray) (pad : Int) : Array Value :=
  #[.bool mrk, .int .u8 typ, .int .u16 seq, .int .u32 time, .int .u32 ssrc, .slice a n c, .bool ext, .int .u16 prof, .string data, .string pay, .int .i64 pad]
theorem keep11 {W0 W : World} {p : Nat} {ys : List UInt8} {b : Nat} {mrk : Bool} {typ seq time ssrc : Int} {a : Option Addr} {n c : Nat} {ext : Bool} {prof : Int} {data pay : ByteArray} {pad : Int}
    (h : ∃ args, Now W0 W p ys args ∧ (b, PCs mrk typ seq time ssrc a n c ext prof data pay pad, PT) ∈ args) :
    W.cell? ⟨b, 0, none⟩ = some (.bool mrk) ∧ W.cell? ⟨b, 1, none⟩ = some (.int .u8 typ) ∧ W.cell? ⟨b, 2, none⟩ = some (.int .u16 seq) ∧ W.cell? ⟨b, 3, none⟩ = some (.int .u32 time) ∧ W.cell? ⟨b, 4, none⟩ = some (.int .u32 ssrc) ∧ W.cell? ⟨b, 5, none⟩ = some (.slice a n c) ∧ W.cell? ⟨b, 6, none⟩ = some (.bool ext)
    ∧ W.cell? ⟨b, 7, none⟩ = some (.int .u16 prof) ∧ W.cell? ⟨b, 8, none⟩ = some (.string data) ∧ W.cell? ⟨b, 9, none⟩ = some (.string pay) ∧ W.cell? ⟨b, 10, none⟩ = some (.int .i64 pad) := by
  obtain ⟨args, hn, hm⟩ := h
  exact cells11 (Now.blk hn hm)

/-- Text's first statement and what stands around it: a region of its own -/
def Done (W0 W : World) (pw pd : Nat) (ys : List UInt8) (PC : Array Value) : Prop := Wrote W0 W pw none ys ∧ Blk W pd PC PT
theorem done_of {W0 W : World} {pw pd : Nat} {ys : List UInt8} {PC : Array Value} (h : ∃ args, Now W0 W pw ys args ∧ (pd, PC, PT) ∈ args) : Done W0 W pw pd ys PC := by
  obtain ⟨args, hn, hm⟩ := h
  exact ⟨hn.done, Now.blk hn hm⟩

set_option maxRecDepth 100000 in
set_option maxHeartbeats 40000000 in
theorem text (p : P) (hv : V p) (a : Option Addr) (c : Nat) (w : World) (hr : Row w a p.cs) :
    Calls Tryz.prog 17 #[.agg (pc p (.slice a p.cs.length c))] w fun e w' => e = .returned (.string ⟨(tx p).toArray⟩) ∧ New w w' := by
  have HF1 := Lib.hid (fun w => first p hv a c w)
  have HF2 := Lib.hid (fun w => second p hv a p.cs.length c w)
  have hb1 := h1_bd p hv
  have hb2 := h2_bd p hv
  have HV := Lib.hid hv
  have HTX : Hid (tx p = tx1 p ++ txE p ++ p.pay.data.toList ++ txP p) := Lib.hid rfl
  have HT1 : Hid (tx1 p = be 1 (h1 p) ++ be 1 (h2 p) ++ be 2 p.seq ++ be 4 p.time ++ be 4 p.ssrc ++ p.cs.flatMap (be 4)) := Lib.hid rfl
  have HTE : Hid (txE p = if p.ext then be 2 p.prof ++ be 2 ((p.data.size / 4 : Nat) : Int) ++ p.data.data.toList else []) := Lib.hid rfl
  have HTP : Hid (txP p = if 0 < p.pad then List.replicate (p.pad - 1).toNat 0 ++ be 1 p.pad else []) := Lib.hid rfl
  have hcn := hv.csn
  have hseq := hv.seq
  have htime := hv.time
  have hssrc := hv.ssrc
  have hcs := hv.cs
  generalize h1 p = b1 at *
  generalize h2 p = b2 at *
  generalize tx p = T at *
  generalize tx1 p = T1 at *
  generalize txE p = TE at *
  generalize txP p = TP at *
  obtain ⟨mrk, typ, seq, time, ssrc, cs, ext, prof, data, pay, pad⟩ := p
  simp only [pc] at *
  obtain ⟨n, hn⟩ : ∃ n, n = cs.length := ⟨_, rfl⟩
  have hfl : (cs.flatMap (be 4)).length ≤ 60 := by
    clear HT1
    have : ∀ l : List Int, (l.flatMap (be 4)).length = 4 * l.length := by
      intro l; induction l with
      | nil => rfl
      | cons x l ih => rw [List.flatMap_cons, List.length_append, ih, be_length, List.length_cons]; omega
    rw [this]; omega
  have hb0 := (Blk.new w #[.bool mrk, .int .u8 typ, .int .u16 seq, .int .u32 time, .int .u32 ssrc, .slice a n c, .bool ext, .int .u16 prof, .string data, .string pay, .int .i64 pad] PT).alloc (.cells #[.slice none 0 0] 130)
  have hn0 : New w ((w.alloc (.cells #[.bool mrk, .int .u8 typ, .int .u16 seq, .int .u32 time, .int .u32 ssrc, .slice a n c, .bool ext, .int .u16 prof, .string data, .string pay, .int .i64 pad] PT)).alloc (.cells #[.slice none 0 0] 130)) := ((Turns.refl _ _).alloc _).alloc _
  have hw0 := fresh (Blk.new (w.alloc (.cells #[.bool mrk, .int .u8 typ, .int .u16 seq, .int .u32 time, .int .u32 ssrc, .slice a n c, .bool ext, .int .u16 prof, .string data, .string pay, .int .i64 pad] PT)) #[.slice none 0 0] 130)
  rw [World.size_alloc] at hw0
  have hlt0 := hw0.lt
  have HROW : Hid (∃ w1, Row w1 a cs ∧ w1.heap.size ≤ w.heap.size + 1 ∧ New w1 ((w.alloc (.cells #[.bool mrk, .int .u8 typ, .int .u16 seq, .int .u32 time, .int .u32 ssrc, .slice a n c, .bool ext, .int .u16 prof, .string data, .string pay, .int .i64 pad] PT)).alloc (.cells #[.slice none 0 0] 130))) := Lib.hid ⟨w, hr, by omega, hn0⟩
  rw [← hn] at HF1 HF2 ⊢
  clear hr
  have HC8 := Lib.hid (fun W B h => u8s_at (W0 := (w.alloc (.cells #[.bool mrk, .int .u8 typ, .int .u16 seq, .int .u32 time, .int .u32 ssrc, .slice a n c, .bool ext, .int .u16 prof, .string data, .string pay, .int .i64 pad] PT)).alloc (.cells #[.slice none 0 0] 130)) (W := W) (p := w.heap.size + 1) (ys := []) (B := B) hb1 hb2 (by simp) h)
  have HC16 := Lib.hid (fun W B h => u16_at (W0 := (w.alloc (.cells #[.bool mrk, .int .u8 typ, .int .u16 seq, .int .u32 time, .int .u32 ssrc, .slice a n c, .bool ext, .int .u16 prof, .string data, .string pay, .int .i64 pad] PT)).alloc (.cells #[.slice none 0 0] 130)) (W := W) (p := w.heap.size + 1) (ys := [] ++ (be 1 b1 ++ be 1 b2)) (B := B) hseq (by simp [be_length]) h)
  have HC32 := Lib.hid (fun W B h => u32s_at (W0 := (w.alloc (.cells #[.bool mrk, .int .u8 typ, .int .u16 seq, .int .u32 time, .int .u32 ssrc, .slice a n c, .bool ext, .int .u16 prof, .string data, .string pay, .int .i64 pad] PT)).alloc (.cells #[.slice none 0 0] 130)) (W := W) (p := w.heap.size + 1) (ys := [] ++ (be 1 b1 ++ be 1 b2) ++ be 2 seq) (B := B) htime hssrc (by simp [be_length]) h)
  have HCR := Lib.hid (fun W h => row_at (W0 := (w.alloc (.cells #[.bool mrk, .int .u8 typ, .int .u16 seq, .int .u32 time, .int .u32 ssrc, .slice a n c, .bool ext, .int .u16 prof, .string data, .string pay, .int .i64 pad] PT)).alloc (.cells #[.slice none 0 0] 130)) (W := W) (p := w.heap.size + 1) (c := c) (ys := [] ++ (be 1 b1 ++ be 1 b2) ++ be 2 seq ++ (be 4 time ++ be 4 ssrc)) hlt0 HROW.out hcs (by simp [be_length]) (by omega) h)
  rw [← hn] at HCR
  have HNL := Lib.hid hn
  clear hn
  have hnow : Now ((w.alloc (.cells #[.bool mrk, .int .u8 typ, .int .u16 seq, .int .u32 time, .int .u32 ssrc, .slice a n c, .bool ext, .int .u16 prof, .string data, .string pay, .int .i64 pad] PT)).alloc (.cells #[.slice none 0 0] 130)) ((w.alloc (.cells #[.bool mrk, .int .u8 typ, .int .u16 seq, .int .u32 time, .int .u32 ssrc, .slice a n c, .bool ext, .int .u16 prof, .string data, .string pay, .int .i64 pad] PT)).alloc (.cells #[.slice none 0 0] 130)) (w.heap.size + 1) [] [(w.heap.size, #[.bool mrk, .int .u8 typ, .int .u16 seq, .int .u32 time, .int .u32 ssrc, .slice a n c, .bool ext, .int .u16 prof, .string data, .string pay, .int .i64 pad], PT)] :=
    ⟨none, hw0, Turns.refl _ _, .inl rfl, fun x hx => by
      rcases List.mem_cons.1 hx with rfl | hx
      · exact ⟨hb0, by simp, by simp⟩
      · cases hx⟩
  have HN := Lib.hid hnow
  have HB0 := Lib.hid hb0
  have HN0 := Lib.hid hn0
  have HTD : Hid (T1 = [] ++ (be 1 b1 ++ be 1 b2) ++ be 2 seq ++ (be 4 time ++ be 4 ssrc) ++ cs.flatMap (be 4)) := Lib.hid (by rw [HT1.out]; simp only [List.nil_append, List.append_assoc])
  have HBS : Hid (data.size ≤ 1500 ∧ (0 ≤ prof ∧ prof ≤ 65535) ∧ T1.length ≤ 200) := by
    have h1 := hv.len
    have h2 := hv.prof
    have h3 := hv.none
    simp only at h1 h2 h3
    refine Lib.hid ⟨?_, h2, ?_⟩
    · by_cases he : ext = true
      · rw [if_pos he] at h1; omega
      · have := (h3 (by simpa using he)).2; omega
    · rw [HT1.out]; simp only [List.length_append, be_length]; omega
  have HLN : Hid (TE.length ≤ 1600 ∧ pay.size ≤ 1500 ∧ 0 ≤ pad ∧ pad ≤ 255) := by
    have h1 := hv.len
    have h2 := hv.pad
    simp only at h1 h2
    refine Lib.hid ⟨?_, by omega, h2⟩
    have h3 := HBS.out.1
    have h4 : data.data.toList.length = data.size := Go.Proofs.YtcppibjllaablaaGreat.wr.size_list data
    rw [HTE.out]
    split
    · simp only [List.length_append, be_length]; omega
    · simp
  have HNE : Hid (w.heap.size ≠ w.heap.size + 1 ∧ w.heap.size < ((w.alloc (.cells #[.bool mrk, .int .u8 typ, .int .u16 seq, .int .u32 time, .int .u32 ssrc, .slice a n c, .bool ext, .int .u16 prof, .string data, .string pay, .int .i64 pad] PT)).alloc (.cells #[.slice none 0 0] 130)).heap.size) := Lib.hid ⟨by omega, by omega⟩
  clear hnow hb0 hn0 hw0 HT1 HROW hcs hcn hseq htime hssrc hb1 hb2
  go_enter Tryz.func17, Tryz.ntmps17
  go_upto_region 2 with fail
  generalize (w.alloc (.cells #[.bool mrk, .int .u8 typ, .int .u16 seq, .int .u32 time, .int .u32 ssrc, .slice a n c, .bool ext, .int .u16 prof, .string data, .string pay, .int .i64 pad] PT)).alloc (.cells #[.slice none 0 0] 130) = W0 at *
  have hPDW : w.heap.size < w.heap.size + 1 := by omega
  generalize hpw : w.heap.size + 1 = pw at *
  generalize hpd : w.heap.size = pd at *
  have HPW := Lib.hid (And.intro hpw hpd)
  clear hpw hpd
  go_cut [] (fun wx => Wrote W0 wx pw none T1 ∧ Blk wx pd #[.bool mrk, .int .u8 typ, .int .u16 seq, .int .u32 time, .int .u32 ssrc, .slice a n c, .bool ext, .int .u16 prof, .string data, .string pay, .int .i64 pad] PT)
  case first =>
    obtain ⟨d0, d1, d2, d3, d4, d5, d6, d7, d8, d9, d10⟩ := cells11 HB0.out
    generalize ([] ++ (be 1 b1 ++ be 1 b2) ++ be 2 seq ++ (be 4 time ++ be 4 ssrc) ++ cs.flatMap (be 4) : List UInt8) = Y4 at *
    generalize ([] ++ (be 1 b1 ++ be 1 b2) ++ be 2 seq ++ (be 4 time ++ be 4 ssrc) : List UInt8) = Y3 at *
    generalize ([] ++ (be 1 b1 ++ be 1 b2) ++ be 2 seq : List UInt8) = Y2 at *
    generalize ([] ++ (be 1 b1 ++ be 1 b2) : List UInt8) = Y1 at *
    go_region_held3 (fun w' => w'.cell? ⟨pd, 0, none⟩ = some (.bool mrk) ∧ w'.cell? ⟨pd, 1, none⟩ = some (.int .u8 typ) ∧ w'.cell? ⟨pd, 2, none⟩ = some (.int .u16 seq) ∧ w'.cell? ⟨pd, 3, none⟩ = some (.int .u32 time) ∧ w'.cell? ⟨pd, 4, none⟩ = some (.int .u32 ssrc) ∧ w'.cell? ⟨pd, 5, none⟩ = some (.slice a n c) ∧ w'.cell? ⟨pd, 6, none⟩ = some (.bool ext) ∧ w'.cell? ⟨pd, 7, none⟩ = some (.int .u16 prof) ∧ w'.cell? ⟨pd, 8, none⟩ = some (.string data) ∧ w'.cell? ⟨pd, 9, none⟩ = some (.string pay) ∧ w'.cell? ⟨pd, 10, none⟩ = some (.int .i64 pad)) (first | assumption | (as_aux_lemma => (apply keep11 (W0 := W0) (p := pw); apply Exists.intro; apply And.intro; (focus (repeat (first | exact HN.out | apply Now.drew | apply Now.alloc | apply hA | apply hB | apply hC.1 | apply hD.1 | apply hE.1 | apply hF.1))); (focus (simp [PCs])))))
      (first
        | (go_at_call 51; (with_reducible refine Calls.mono (HF1.out _) ?_); rintro en whA ⟨rfl, kA⟩; have hA : ∀ ys args, Now W0 _ pw ys args → Now W0 whA pw ys args := fun _ _ h => Now.new h kA)
        | (go_at_call 52; (with_reducible refine Calls.mono (HF2.out _) ?_); rintro en whB ⟨rfl, kB⟩; have hB : ∀ ys args, Now W0 _ pw ys args → Now W0 whB pw ys args := fun _ _ h => Now.new h kB)
        | (go_at_call 50; (with_reducible refine Calls.mono (HC8.out _ _ ?_) ?_); (focus (as_aux_lemma => (apply Exists.intro; apply And.intro; (focus (repeat (first | exact HN.out | apply Now.drew | apply Now.alloc | apply hA | apply hB | apply hC.1 | apply hD.1 | apply hE.1 | apply hF.1))); (focus (simp))))); rintro en whC ⟨rfl, hC⟩)
        | (go_at_call 53; (with_reducible refine Calls.mono (HC16.out _ _ ?_) ?_); (focus (as_aux_lemma => (apply Exists.intro; apply And.intro; (focus (repeat (first | exact HN.out | apply Now.drew | apply Now.alloc | apply hA | apply hB | apply hC.1 | apply hD.1 | apply hE.1 | apply hF.1))); (focus (simp))))); rintro en whD ⟨rfl, hD⟩)
        | (go_at_call 54; (with_reducible refine Calls.mono (HC32.out _ _ ?_) ?_); (focus (as_aux_lemma => (apply Exists.intro; apply And.intro; (focus (repeat (first | exact HN.out | apply Now.drew | apply Now.alloc | apply hA | apply hB | apply hC.1 | apply hD.1 | apply hE.1 | apply hF.1))); (focus (simp))))); rintro en whE ⟨rfl, hE⟩)
        | (go_at_call 54; (with_reducible refine Calls.mono (HCR.out _ ?_) ?_); (focus (as_aux_lemma => (apply Exists.intro; apply And.intro; (focus (repeat (first | exact HN.out | apply Now.drew | apply Now.alloc | apply hA | apply hB | apply hC.1 | apply hD.1 | apply hE.1 | apply hF.1))); (focus (simp))))); rintro en whF ⟨rfl, hF⟩))
    all_goals
      (as_aux_lemma => (go_wp2_with fail; go_meet; rw [HTD.out]; apply done_of; apply Exists.intro; apply And.intro; (focus (repeat (first | exact HN.out | apply Now.drew | apply Now.alloc | apply hA | apply hB | apply hC.1 | apply hD.1 | apply hE.1 | apply hF.1))); (focus (simp))))
  case rest =>
    have H1 := Lib.hid hcut
    clear hcut HN HTD HF1 HF2 HC8 HC16 HC32 HCR
    obtain ⟨d0, d1, d2, d3, d4, d5, d6, d7, d8, d9, d10⟩ := cells11 H1.out.2
    go_upto_if 25 with fail
    go_cut [] (fun wx => Wrote W0 wx pw none (T1 ++ TE) ∧ Blk wx pd #[.bool mrk, .int .u8 typ, .int .u16 seq, .int .u32 time, .int .u32 ssrc, .slice a n c, .bool ext, .int .u16 prof, .string data, .string pay, .int .i64 pad] PT)
    case first =>
      cases ext
      · rw [if_neg (by simp)] at HTE
        go_wp2_with fail
        go_meet
        case rel => rw [HTE.out, List.append_nil]; exact H1.out
      · rw [if_pos rfl] at HTE
        obtain ⟨k, hk⟩ : ∃ k : Nat, k = data.size / 4 := ⟨_, rfl⟩
        have hds : data.size ≤ 1500 := HBS.out.1
        have hk1 : (data.size : Int) / 4 = (k : Int) := by omega
        have hk2 : (data.size : Int).tdiv 4 = (k : Int) := by rw [Int.tdiv_eq_ediv_of_nonneg (by omega)]; omega
        have hk3 : IntKind.u16.wrap (k : Int) = (k : Int) := by rw [IntKind.wrap_u16]; omega
        have hk4 : IntKind.i64.wrap (k : Int) = (k : Int) := IntWalk.i64_in _ (by omega)
        have hkb : 0 ≤ (k : Int) ∧ (k : Int) ≤ 65535 := by omega
        rw [← hk] at HTE
        have hp16 := HBS.out.2.1
        have hT1 := HBS.out.2.2
        clear hk
        have HM := Lib.hid (Now.with H1.out.1 H1.out.2 HNE.out.1 HNE.out.2)
        have HC16 := Lib.hid (fun W B h => u16s_at (W0 := W0) (W := W) (p := pw) (ys := T1) (B := B) hp16 hkb (by omega) h)
        have HCP := Lib.hid (fun W B h => put_at (W0 := W0) (W := W) (p := pw) (ys := T1 ++ (be 2 prof ++ be 2 (k : Int))) (B := B) (s := data) (by simp [be_length]; omega) h)
        have HTF : Hid (T1 ++ TE = T1 ++ (be 2 prof ++ be 2 (k : Int)) ++ data.data.toList) := Lib.hid (by rw [HTE.out]; simp only [List.append_assoc])
        clear hp16 hT1 hkb hds
        generalize T1 ++ (be 2 prof ++ be 2 (k : Int)) = Y1 at *
        go_wp2_with fail
        go_region_held3 (fun w' => w'.cell? ⟨pd, 0, none⟩ = some (.bool mrk) ∧ w'.cell? ⟨pd, 1, none⟩ = some (.int .u8 typ) ∧ w'.cell? ⟨pd, 2, none⟩ = some (.int .u16 seq) ∧ w'.cell? ⟨pd, 3, none⟩ = some (.int .u32 time) ∧ w'.cell? ⟨pd, 4, none⟩ = some (.int .u32 ssrc) ∧ w'.cell? ⟨pd, 5, none⟩ = some (.slice a n c) ∧ w'.cell? ⟨pd, 6, none⟩ = some (.bool true) ∧ w'.cell? ⟨pd, 7, none⟩ = some (.int .u16 prof) ∧ w'.cell? ⟨pd, 8, none⟩ = some (.string data) ∧ w'.cell? ⟨pd, 9, none⟩ = some (.string pay) ∧ w'.cell? ⟨pd, 10, none⟩ = some (.int .i64 pad)) (first | assumption | (as_aux_lemma => (apply keep11 (W0 := W0) (p := pw); apply Exists.intro; apply And.intro; (focus (repeat (first | exact HM.out | apply Now.drew | apply Now.alloc | apply hC.1 | apply hD.1))); (focus (simp [PCs])))))
          (first
            | (go_at_call 53; (with_reducible refine Calls.mono (HC16.out _ _ ?_) ?_); (focus (as_aux_lemma => (apply Exists.intro; apply And.intro; (focus (repeat (first | exact HM.out | apply Now.drew | apply Now.alloc | apply hC.1 | apply hD.1))); (focus (simp))))); rintro en whC ⟨rfl, hC⟩)
            | (go_at_call 55; (with_reducible refine Calls.mono (HCP.out _ _ ?_) ?_); (focus (as_aux_lemma => (apply Exists.intro; apply And.intro; (focus (repeat (first | exact HM.out | apply Now.drew | apply Now.alloc | apply hC.1 | apply hD.1))); (focus (simp))))); rintro en whD ⟨rfl, hD⟩))
        all_goals
          (as_aux_lemma => (go_wp2_with fail; go_meet; rw [HTF.out]; apply done_of; apply Exists.intro; apply And.intro; (focus (repeat (first | exact HM.out | apply Now.drew | apply Now.alloc | apply hC.1 | apply hD.1))); (focus (simp))))
    case rest =>
      have H2 := Lib.hid hcut
      clear hcut H1 d0 d1 d2 d3 d4 d5 d6 d7 d8 d9 d10
      have hTE : TE.length ≤ 1600 := HLN.out.1
      have hT1 : T1.length ≤ 200 := HBS.out.2.2
      have hpy : pay.size ≤ 1500 := HLN.out.2.1
      have hpd := HLN.out.2.2
      obtain ⟨A, hA⟩ : ∃ A, A = T1 ++ TE := ⟨_, rfl⟩
      have hAl : A.length ≤ 1800 := by rw [hA, List.length_append]; omega
      rw [← hA] at H2 HTX
      clear hA
      obtain ⟨d0, d1, d2, d3, d4, d5, d6, d7, d8, d9, d10⟩ := cells11 H2.out.2
      go_wp2_with fail
      refine (put_lit H2.out.1 pay (by omega) _ rfl).mono ?_
      rintro e w3 ⟨rfl, hw3⟩
      have hb3 : Blk w3 pd #[.bool mrk, .int .u8 typ, .int .u16 seq, .int .u32 time, .int .u32 ssrc, .slice a n c, .bool ext, .int .u16 prof, .string data, .string pay, .int .i64 pad] PT := (Wrote.turns hw3).blk HB0.out (by rintro (h | h); exact HNE.out.1 h; cases h)
      have H3 := Lib.hid (And.intro hw3 hb3)
      clear hw3 H2 d0 d1 d2 d3 d4 d5 d6 d7 d8 d9 d10
      obtain ⟨d0, d1, d2, d3, d4, d5, d6, d7, d8, d9, d10⟩ := cells11 hb3
      clear hb3
      have hpl : pay.data.toList.length = pay.size := Go.Proofs.YtcppibjllaablaaGreat.wr.size_list pay
      have hBl : (A ++ pay.data.toList).length ≤ 3300 := by rw [List.length_append]; omega
      generalize A ++ pay.data.toList = B at *
      have hcv : IntKind.u8.wrap pad = pad := by rw [IntKind.wrap_u8]; omega
      clear hpl hTE hT1 hpy
      by_cases hp0 : 0 < pad
      · have hp0' : decide (0 < pad) = true := decide_eq_true hp0
        rw [if_pos hp0] at HTP
        obtain ⟨m, hm⟩ : ∃ m : Nat, pad = (m : Int) + 1 := ⟨(pad - 1).toNat, by omega⟩
        have hm2 : (pad - 1).toNat = m := by omega
        have hm3 : pad - 1 = (m : Int) := by omega
        have hmb : m ≤ 1000 := by omega
        rw [hm2] at HTP
        have HRp := Lib.hid (fun w => repeat_any m hmb w)
        clear hm hm2
        go_wp2_with fail
        refine (HRp.out w3).mono ?_
        rintro e w4 ⟨rfl, hn4⟩
        have hw4 := Wrote.new H3.out.1 hn4
        obtain ⟨Z, hZ, hZs⟩ : ∃ Z : ByteArray, Z = ⟨(List.replicate m (0 : UInt8)).toArray⟩ ∧ Z.size = m := ⟨_, rfl, by rw [size_mk]; simp⟩
        have hZl : Z.data.toList = List.replicate m (0 : UInt8) := by rw [hZ]
        rw [← hZ]
        clear hZ hn4 hm3
        have HZl := Lib.hid hZl
        have HZs := Lib.hid hZs
        clear hZl hZs
        go_wp2_with fail
        refine (put_lit hw4 Z (by rw [HZs.out]; omega) _ rfl).mono ?_
        rintro e w5 ⟨rfl, hw5⟩
        rw [HZl.out] at hw5
        go_wp2_with fail
        refine (u8_lit hw5 pad (by omega) (by omega) (by simp only [List.length_append, List.length_replicate]; omega) _ rfl).mono ?_
        rintro e w6 ⟨rfl, hw6⟩
        obtain ⟨q6, hb6, ht6, _⟩ := hw6
        have HT := Lib.hid (Go.Proofs.YtcppibjllaablaaGreat.wr.text _ q6 _ w6 hb6)
        have hn6 : New w w6 := HN0.out.trans (ht6.mono (fun k _ h => .inr (by rcases h with h | h; rw [h]; have := HPW.out.1; have := HPW.out.2; omega; cases h)))
        clear hw4 hw5 hb6 ht6
        go_wp2_with fail
        refine (HT.out).mono ?_
        rintro e w7 ⟨rfl, rfl⟩
        go_wp2
        go_ret
        rw [HTX.out, HTP.out]
        simp only [List.append_assoc]
        exact ⟨rfl, hn6⟩
      · have hp0' : decide (0 < pad) = false := decide_eq_false hp0
        rw [if_neg hp0] at HTP
        obtain ⟨q6, hb6, ht6, _⟩ := H3.out.1
        have HT := Lib.hid (Go.Proofs.YtcppibjllaablaaGreat.wr.text _ q6 _ w3 hb6)
        have hn6 : New w w3 := HN0.out.trans (ht6.mono (fun k _ h => .inr (by rcases h with h | h; rw [h]; have := HPW.out.1; have := HPW.out.2; omega; cases h)))
        have HN6 := Lib.hid hn6
        clear hb6 ht6 hn6
        go_wp2_with fail
        refine (HT.out).mono ?_
        rintro e w7 ⟨rfl, rfl⟩
        go_wp2
        go_ret
        rw [HTX.out, HTP.out, List.append_nil]
        exact ⟨rfl, HN6.out⟩
end Go.Proofs.YtcppibjllaablaaGreat.rp

/-
  rtp: what is written is read back. No program.
-/
namespace Go.Proofs.YtcppibjllaablaaGreat.rp
open Go.RowKit mem rd wr oref sq
set_option linter.unusedVariables false

theorem it_shift (s : St) (n : Nat) : it s (n + 1) = it (nx 4 s) n := by
  induction n with
  | zero => rfl
  | succ n ih => show nx 4 (it s (n + 1)) = nx 4 (it (nx 4 s) n); rw [ih]
theorem csL_shift (s : St) (n : Nat) : csL s (n + 1) = vn 4 s :: csL (nx 4 s) n := by
  unfold csL
  rw [List.range_succ_eq_map, List.map_cons, List.map_map]
  congr 1
  apply List.map_congr_left
  intro i _
  show vn 4 (it s (i + 1)) = vn 4 (it (nx 4 s) i)
  rw [it_shift]
theorem cs_back (l : List Int) (hl : ∀ x ∈ l, 0 ≤ x ∧ x ≤ 4294967295) (X : List UInt8) (e : Int) : csL (l.flatMap (be 4) ++ X, e) l.length = l ∧ it (l.flatMap (be 4) ++ X, e) l.length = (X, e) := by
  induction l with
  | nil => exact ⟨rfl, rfl⟩
  | cons x l ih =>
    have hx := hl x (by simp)
    have ih := ih (fun y hy => hl y (by simp [hy]))
    rw [List.flatMap_cons, List.append_assoc, List.length_cons, csL_shift, it_shift, vn_be 4 x hx.1 (by omega), nx_be, ih.1, ih.2]
    exact ⟨rfl, rfl⟩

theorem pad_back (p : List UInt8) (n : Int) (h0 : 0 < n) (h1 : n ≤ 255) :
    pdN (p ++ (List.replicate (n - 1).toNat 0 ++ be 1 n)) = n ∧ pdE (p ++ (List.replicate (n - 1).toNat 0 ++ be 1 n)) = 0 ∧ (p ++ (List.replicate (n - 1).toNat 0 ++ be 1 n)).take ((p ++ (List.replicate (n - 1).toNat 0 ++ be 1 n)).length - n.toNat) = p := by
  have e1 : be 1 n = [Go.Proofs.YtcppibjllaablaaGreat.wr.byteOf n] := by simp [be]
  have hlen : (p ++ (List.replicate (n - 1).toNat 0 ++ be 1 n)).length = p.length + n.toNat := by
    simp only [List.length_append, List.length_replicate, be_length]; omega
  have hne : p ++ (List.replicate (n - 1).toNat 0 ++ be 1 n) ≠ [] := by
    intro h; have := congrArg List.length h; rw [hlen] at this; simp at this; omega
  have hlast : lastB (p ++ (List.replicate (n - 1).toNat 0 ++ be 1 n)) = n := by
    unfold lastB
    rw [e1, ← List.append_assoc, List.getLast?_append]
    simp only [List.getLast?_singleton, Option.some_or, Option.getD_some]
    rw [Go.Proofs.YtcppibjllaablaaGreat.wr.byteOf_toNat]; omega
  refine ⟨?_, ?_, ?_⟩
  · unfold pdN
    rw [if_neg hne, hlast, if_neg (by omega), if_neg (by rw [hlen]; omega)]
  · unfold pdE
    rw [if_neg hne, hlast, if_neg (by omega), if_neg (by rw [hlen]; omega)]
  · rw [hlen, show p.length + n.toNat - n.toNat = p.length by omega]
    exact List.take_left

theorem h1_bits (p : P) (h : V p) : h1 p / 64 = 2 ∧ (h1 p % 16).toNat = p.cs.length ∧ (h1 p / 16 % 2 = 1 ↔ p.ext = true) ∧ (h1 p / 32 % 2 = 1 ↔ 0 < p.pad) := by
  have hn := h.csn
  have hp := h.pad
  unfold h1 bitI
  by_cases h1 : p.ext = true <;> by_cases h2 : 0 < p.pad
  all_goals
    simp only [h1, h2, decide_true, decide_false, if_true, Bool.false_eq_true, if_false]
    refine ⟨by omega, by omega, ?_, ?_⟩ <;> first | omega | (constructor <;> intro h <;> first | omega | trivial | simp_all)

/-- the packet's bytes behind the first two -/
theorem tx_split (p : P) : tx p = be 1 (h1 p) ++ (be 1 (h2 p) ++ (be 2 p.seq ++ (be 4 p.time ++ (be 4 p.ssrc ++ (p.cs.flatMap (be 4) ++ (txE p ++ (p.pay.data.toList ++ txP p))))))) := by
  unfold tx tx1
  simp only [List.append_assoc]

theorem ext_back (p : P) (h : V p) (q : P) (hq1 : q.ext = false) (hq2 : q.prof = 0) (hq3 : q.data = nob) (X : List UInt8) :
    xtS (h1 p) (txE p ++ X, 0) = (X, 0) ∧ xtP (h1 p) q (txE p ++ X, 0) = { q with ext := p.ext, prof := p.prof, data := p.data } := by
  have hb := (h1_bits p h).2.2.1
  have hd := h.data
  have hl := h.len
  have hpr := h.prof
  unfold xtS xtP txE
  by_cases he : p.ext = true
  · rw [if_pos he] at hl
    rw [if_pos (hb.2 he), if_pos (hb.2 he), if_pos he]
    have e1 : vn 2 (be 2 p.prof ++ be 2 ((p.data.size / 4 : Nat) : Int) ++ p.data.data.toList ++ X, 0) = p.prof := by
      simp only [List.append_assoc]; exact vn_be 2 _ hpr.1 (by omega) _ _
    have e2 : nx 2 (be 2 p.prof ++ be 2 ((p.data.size / 4 : Nat) : Int) ++ p.data.data.toList ++ X, 0) = (be 2 ((p.data.size / 4 : Nat) : Int) ++ (p.data.data.toList ++ X), 0) := by
      simp only [List.append_assoc]; exact nx_be 2 _ _ _
    have e3 : vn 2 (be 2 ((p.data.size / 4 : Nat) : Int) ++ (p.data.data.toList ++ X), 0) = ((p.data.size / 4 : Nat) : Int) := vn_be 2 _ (by omega) (by omega) _ _
    have e4 : nx 2 (be 2 ((p.data.size / 4 : Nat) : Int) ++ (p.data.data.toList ++ X), 0) = (p.data.data.toList ++ X, 0) := nx_be 2 _ _ _
    have eN : exN (be 2 p.prof ++ be 2 ((p.data.size / 4 : Nat) : Int) ++ p.data.data.toList ++ X, 0) = p.data.size := by
      unfold exN; rw [e2, e3]; omega
    have hdl : p.data.data.toList.length = p.data.size := Go.Proofs.YtcppibjllaablaaGreat.wr.size_list p.data
    unfold exS exP exS1
    rw [eN, e2, e4, e1, nx_app _ _ _ _ hdl, bn_app _ _ _ _ hdl]
    refine ⟨rfl, ?_⟩
    unfold lst
    rw [eta_mk, he]
  · have he' : p.ext = false := by simpa using he
    obtain ⟨z1, z2⟩ := h.none he'
    rw [if_neg (fun h' => he (hb.1 h')), if_neg (fun h' => he (hb.1 h')), if_neg he]
    refine ⟨rfl, ?_⟩
    have z3 : p.data = nob := by
      apply ByteArray.ext
      have : p.data.data.size = 0 := z2
      exact Array.eq_empty_of_size_eq_zero this
    rw [he', z1, z3, ← hq1, ← hq2, ← hq3]

theorem pay_back (p : P) (h : V p) (q : P) (hq : q.pad = 0) : pyE (h1 p) (p.pay.data.toList ++ txP p, 0) = 0 ∧ pyP (h1 p) q (p.pay.data.toList ++ txP p, 0) = { q with pay := p.pay, pad := p.pad } := by
  have hb := (h1_bits p h).2.2.2
  have hp := h.pad
  unfold pyE pyP txP
  by_cases h0 : 0 < p.pad
  · rw [if_pos (hb.2 h0), if_pos (hb.2 h0), if_pos h0]
    obtain ⟨a, b, c⟩ := pad_back p.pay.data.toList p.pad h0 hp.2
    simp only
    rw [a, b, c]
    refine ⟨rfl, ?_⟩
    unfold lst
    rw [eta_mk]
  · rw [if_neg (fun h' => h0 (hb.1 h')), if_neg (fun h' => h0 (hb.1 h')), if_neg h0, List.append_nil]
    refine ⟨rfl, ?_⟩
    unfold lst
    rw [eta_mk, show p.pad = q.pad from by omega]

/-- how long it is -/
theorem flat4 (l : List Int) : (l.flatMap (be 4)).length = 4 * l.length := by
  induction l with
  | nil => rfl
  | cons x l ih => rw [List.flatMap_cons, List.length_append, ih, be_length, List.length_cons]; omega
theorem tx_length (p : P) (h : V p) : ((tx p).length : Int) = lenI p := by
  have hd := h.data
  have hp := h.pad
  have e1 : p.data.data.toList.length = p.data.size := Go.Proofs.YtcppibjllaablaaGreat.wr.size_list p.data
  have e2 : p.pay.data.toList.length = p.pay.size := Go.Proofs.YtcppibjllaablaaGreat.wr.size_list p.pay
  have l1 : (txP p).length = p.pad.toNat := by
    unfold txP
    split
    · simp only [List.length_append, List.length_replicate, be_length]; omega
    · simp; omega
  have l2 : (txE p).length = if p.ext then 4 + p.data.size else 0 := by
    unfold txE
    split
    · simp only [List.length_append, be_length, e1]
    · rfl
  rw [tx_split]
  simp only [List.length_append, be_length, flat4, l1, l2, e2]
  unfold lenI
  split <;> omega

/-- what is written is read back -/
theorem parse_text (p : P) (h : V p) : outE (tx p) = 0 ∧ outP (tx p) = p := by
  have hb := h1_bits p h
  have b1 : 0 ≤ h1 p ∧ h1 p ≤ 255 := by
    have := h.csn; unfold h1 bitI; split <;> split <;> omega
  have hty := h.typ
  have b2 : 0 ≤ h2 p ∧ h2 p ≤ 255 := by unfold h2 bitI; split <;> omega
  have hlen : (tx p).length ≤ 1500 := by
    have := tx_length p h
    have hl := h.len
    have hp := h.pad
    unfold lenI at this
    split at this <;> split at hl <;> first | omega | simp_all
  have hseq := h.seq
  have htime := h.time
  have hssrc := h.ssrc
  have ev : vr (tx p, 0) = (be 2 p.seq ++ (be 4 p.time ++ (be 4 p.ssrc ++ (p.cs.flatMap (be 4) ++ (txE p ++ (p.pay.data.toList ++ txP p))))), 0) := by
    unfold vr
    rw [tx_split, vn_be 1 _ b1.1 (by omega), nx_be, nx_be, if_pos hb.1]
  have ea : vn 1 (tx p, 0) = h1 p := by rw [tx_split]; exact vn_be 1 _ b1.1 (by omega) _ _
  have eb : vn 1 (nx 1 (tx p, 0)) = h2 p := by rw [tx_split, nx_be]; exact vn_be 1 _ b2.1 (by omega) _ _
  obtain ⟨hc1, hc2⟩ := cs_back p.cs h.cs (txE p ++ (p.pay.data.toList ++ txP p)) 0
  have eS : hdS (vr (tx p, 0)) (h1 p % 16).toNat = (txE p ++ (p.pay.data.toList ++ txP p), 0) := by
    rw [ev, hb.2.1]; unfold hdS
    rw [nx_be, nx_be, nx_be, hc2]
  have eP : hdP (h2 p) (vr (tx p, 0)) (h1 p % 16).toNat = { zero with mrk := p.mrk, typ := p.typ, seq := p.seq, time := p.time, ssrc := p.ssrc, cs := p.cs } := by
    rw [ev, hb.2.1]; unfold hdP
    rw [nx_be, nx_be, nx_be, vn_be 2 _ hseq.1 (by omega), vn_be 4 _ htime.1 (by omega), vn_be 4 _ hssrc.1 (by omega), hc1, vp.b128_is _ b2.1 b2.2]
    have e1 : decide (128 ≤ h2 p) = p.mrk := by
      unfold h2 bitI
      cases p.mrk
      · simp; omega
      · simp; omega
    have e2 : h2 p % 128 = p.typ := by
      unfold h2 bitI
      split <;> omega
    rw [e1, e2]
  obtain ⟨hx1, hx2⟩ := ext_back p h { zero with mrk := p.mrk, typ := p.typ, seq := p.seq, time := p.time, ssrc := p.ssrc, cs := p.cs } rfl rfl rfl (p.pay.data.toList ++ txP p)
  obtain ⟨hy1, hy2⟩ := pay_back p h { ({ zero with mrk := p.mrk, typ := p.typ, seq := p.seq, time := p.time, ssrc := p.ssrc, cs := p.cs } : P) with ext := p.ext, prof := p.prof, data := p.data } rfl
  have E0 : outE (tx p) = 0 := by
    unfold outE
    rw [if_neg (by omega)]
    unfold allE bodyE
    rw [ea, eS, hx1]
    exact hy1
  refine ⟨E0, ?_⟩
  unfold outP
  rw [if_pos E0]
  unfold allP bodyP
  rw [ea, eb, eS, eP, hx1, hx2, hy2]
end Go.Proofs.YtcppibjllaablaaGreat.rp

/-
  'live' of the statements through the layers (stage 6).
-/
namespace Go.Proofs.YtcppibjllaablaaGreat.top
open Go.RowKit mem
set_option linter.unusedVariables false

/-- a packet with one payload and nothing else -/
def pk (seq : Int) (pay : ByteArray) : rp.P := ⟨false, 96, seq, 0, 0, [], false, 0, rp.nob, pay, 0⟩
theorem pk_V (seq : Int) (pay : ByteArray) (h0 : 0 ≤ seq) (h1 : seq ≤ 65535) (hp : pay.size ≤ 1400) : rp.V (pk seq pay) :=
  ⟨by simp [pk], ⟨h0, h1⟩, by simp [pk], by simp [pk], by simp [pk], by simp [pk], by simp [pk], by simp [pk], by simp [pk, rp.nob]; rfl, by simp [pk, rp.nob]; rfl, by simp [pk]; omega⟩
theorem pk_len (seq : Int) (pay : ByteArray) (h0 : 0 ≤ seq) (h1 : seq ≤ 65535) (hp : pay.size ≤ 1400) : (rp.tx (pk seq pay)).length ≤ 1500 := by
  have h := rp.tx_length _ (pk_V seq pay h0 h1 hp)
  have hl := (pk_V seq pay h0 h1 hp).len
  simp only [rp.lenI, pk] at h hl
  simp at h hl
  have : (rp.tx (pk seq pay)).length = 12 + pay.size := by
    have h2 : ((rp.tx ⟨false, 96, seq, 0, 0, [], false, 0, rp.nob, pay, 0⟩).length : Int) = 12 + pay.size := by rw [h]
    exact Int.ofNat.inj h2
  omega

/-- a packet's text -/
theorem pk_text (seq : Int) (pay : ByteArray) (h0 : 0 ≤ seq) (h1 : seq ≤ 65535) (hp : pay.size ≤ 1400) (a : Option Addr) (c : Nat) (w : World) :
    Calls Tryz.prog 17 #[.agg #[.bool false, .int .u8 96, .int .u16 seq, .int .u32 0, .int .u32 0, .slice a 0 c, .bool false, .int .u16 0, .string ⟨#[]⟩, .string pay, .int .i64 0]] w fun e w' => e = .returned (.string ⟨(rp.tx (pk seq pay)).toArray⟩) ∧ New w w' :=
  rp.text (pk seq pay) (pk_V seq pay h0 h1 hp) a c w (.inl rfl)
/-- .. and read back -/
theorem pk_parse (seq : Int) (pay : ByteArray) (h0 : 0 ≤ seq) (h1 : seq ≤ 65535) (hp : pay.size ≤ 1400) (w : World) :
    Calls Tryz.prog 16 #[.string ⟨(rp.tx (pk seq pay)).toArray⟩] w fun e w' => ∃ a c, e = .returned (.tuple #[.agg #[.bool false, .int .u8 96, .int .u16 seq, .int .u32 0, .int .u32 0, .slice a 0 c, .bool false, .int .u16 0, .string ⟨#[]⟩, .string pay, .int .i64 0], .int .i64 0]) ∧ New w w' := by
  have hpt := rp.parse_text _ (pk_V seq pay h0 h1 hp)
  have hlen := pk_len seq pay h0 h1 hp
  have h := rp.parse_small ⟨(rp.tx (pk seq pay)).toArray⟩ w (by rw [size_mk]; exact hlen)
  have hd : (⟨(rp.tx (pk seq pay)).toArray⟩ : ByteArray).data.toList = rp.tx (pk seq pay) := rfl
  rw [hd, hpt.1, hpt.2] at h
  refine h.mono ?_
  rintro e w' ⟨v, rfl, hn, ho⟩
  obtain ⟨a, c, rfl⟩ := rp.own_shape ho
  exact ⟨a, c, rfl, hn⟩

theorem plain_tx : vp.tx vp.plain = [0] := by decide +kernel
theorem plain_V : vp.V vp.plain := ⟨by simp [vp.plain], by simp [vp.plain], by simp [vp.plain], by simp [vp.plain], by simp [vp.plain], by simp [vp.plain], by simp [vp.plain], by simp [vp.plain]⟩

set_option maxRecDepth 100000 in
set_option maxHeartbeats 1000000 in
theorem live (w : World) :
    Calls Tryz.prog 6 #[] w fun e w' => e = .returned (.bool true) ∧ New w w' := by
  have HT := Lib.hid (fun w => pk_text 1 ⟨#[120]⟩ (by omega) (by omega) (by decide) none 0 w)
  have HP := Lib.hid (fun w => pk_parse 1 ⟨#[120]⟩ (by omega) (by omega) (by decide) w)
  generalize (⟨(rp.tx (pk 1 ⟨#[120]⟩)).toArray⟩ : ByteArray) = T at *
  have HV := Lib.hid (fun w => vp.text vp.plain plain_V w)
  rw [plain_tx] at HV
  have HB := Lib.hid (fun b w h => text_pli b w h)
  go_enter Tryz.func6, Tryz.ntmps6
  go_wp2_with fail
  have n1 : New w (w.alloc (.cells #[.bool false, .int .u8 96, .int .u16 1, .int .u32 0, .int .u32 0, .slice none 0 0, .bool false, .int .u16 0, .string ⟨#[]⟩, .string ⟨#[120]⟩, .int .i64 0] 75)) := (Turns.refl _ _).alloc _
  refine (HT.out _).mono ?_
  rintro e w2 ⟨rfl, n2⟩
  have n12 : New w w2 := n1.trans (n2.mono (fun _ _ h => h.elim))
  clear n1 n2 HT
  go_wp2_with fail
  refine (HP.out _).mono ?_
  rintro e w3 ⟨a, c, rfl, n3⟩
  have n13 : New w w3 := n12.trans (n3.mono (fun _ _ h => h.elim))
  clear n12 n3 HP
  have hb := Blk.new w3 #[.bool false, .int .u8 96, .int .u16 1, .int .u32 0, .int .u32 0, .slice a 0 c, .bool false, .int .u16 0, .string ⟨#[]⟩, .string ⟨#[120]⟩, .int .i64 0] 75
  have n14 : New w (w3.alloc (.cells #[.bool false, .int .u8 96, .int .u16 1, .int .u32 0, .int .u32 0, .slice a 0 c, .bool false, .int .u16 0, .string ⟨#[]⟩, .string ⟨#[120]⟩, .int .i64 0] 75)) := n13.alloc _
  have H4 := Lib.hid (And.intro hb n14)
  clear hb n14 n13
  go_wp2_with fail
  generalize w3.alloc (.cells #[.bool false, .int .u8 96, .int .u16 1, .int .u32 0, .int .u32 0, .slice a 0 c, .bool false, .int .u16 0, .string ⟨#[]⟩, .string ⟨#[120]⟩, .int .i64 0] 75) = w4 at *
  generalize w3.heap.size = pq at *
  refine (vp.plain_any w4).mono ?_
  rintro e w5 ⟨rfl, n5⟩
  have hb5 := (n5.blk H4.out.1 (fun h => h)).alloc (.cells #[.bool false, .bool false, .int .i64 0, .int .i64 (-1), .bool false, .int .i64 (-1), .int .i64 (-1), .bool false, .int .i64 (-1)] 80)
  have n15 : New w (w5.alloc (.cells #[.bool false, .bool false, .int .i64 0, .int .i64 (-1), .bool false, .int .i64 (-1), .int .i64 (-1), .bool false, .int .i64 (-1)] 80)) := (H4.out.2.trans (n5.mono (fun _ _ h => h.elim))).alloc _
  have q1 := hb5.cell 1
  have q9 := hb5.cell 9
  clear hb5 n5 H4
  go_wp2_with fail
  refine (HV.out _).mono ?_
  rintro e w6 ⟨rfl, n6⟩
  have n16 : New w w6 := n15.trans (n6.mono (fun _ _ h => h.elim))
  have hsz : (⟨([0] : List UInt8).toArray⟩ : ByteArray).size = 1 := rfl
  clear HV n15 n6 q1 q9
  go_wp2_with fail
  have n17 : New w (w6.alloc (.cells #[pliV] 141)) := n16.alloc _
  refine (HB.out w6.heap.size _ (Blk.new w6 #[pliV] _)).mono ?_
  rintro e w7 ⟨rfl, n7⟩
  have n18 : New w w7 := n17.trans (n7.mono (fun _ _ h => h.elim))
  clear n17 n16 n7 HB
  unfold pliL
  go_wp2
  go_ret
  exact ⟨rfl, n18⟩
end Go.Proofs.YtcppibjllaablaaGreat.top

/-
  What is read at a place of an owned row. No program.
-/
namespace Go.Proofs.YtcppibjllaablaaGreat.mem
open Go.RowKit
set_option linter.unusedVariables false

theorem own_at {α : Type} {E : Enc α} {T : TypeId} {w : World} {ao : Option Addr} {n c : Nat} {l : List α} (h : Owns E T w (.slice ao n c) l) {k : Nat} {x : α} (hx : l[k]? = some x) : ∃ g, ao = some ⟨g, 0, none⟩ ∧ g < w.heap.size ∧ ∀ (j : Nat) (u : Value), (E.cs x)[j]? = some u → w.cell? ⟨g, k * E.n + j, none⟩ = some u := by
  obtain ⟨ao', c', hv, _, hr, _⟩ := h.form
  injection hv with e1 _ _
  subst e1
  rcases hr with e | ⟨g, e, hg, hcell⟩
  · rw [e] at hx; simp at hx
  · exact ⟨g, e, hg, fun j u hu => hcell k x hx j u hu⟩
end Go.Proofs.YtcppibjllaablaaGreat.mem

/-
  AntiphonShares: the law.
-/
namespace Go.Proofs.YtcppibjllaablaaGreat.egr
open Go.RowKit mem Go.Maps
open Go.Proofs.YtcppibjllaablaaGreat.itr
set_option linter.unusedVariables false

/-- what the outer loop keeps -/
structure LS (w1 wr : World) (A : Ad) (e : Eo) (sb : Nat) (z p q : Int) (c : Int → Nat) (u1 u2 : Int) (k mm : Nat) : Prop where
  sl : SL w1 wr A e sb z p q c u1 u2 u1 u2
  c1 : c 1 ≤ 5
  c2 : c 2 ≤ 5
  cr0 : 0 ≤ e.credit
  cr1 : e.credit < z
  r0 : 0 ≤ e.row
  r1 : e.row ≤ 10 * (k : Int)
  a0 : 0 ≤ u1
  a1 : u1 ≤ 120 * (k : Int)
  b0 : 0 ≤ u2
  b1 : u2 ≤ 120 * (k : Int)
  m : mm ≤ 100 * k
theorem SL.start {w1 w4 : World} {A : Ad} {fb1 qb1 sb1 fb2 qb2 sb2 sb : Nat} {z p q : Int} (h : Ru w1.heap.size w1 w4 A 2 (addE (addE (fresh 5 1000 100 40 3) ⟨1, fb1, true, qb1, .slice none 0 0, que.fresh 5 1000⟩ (drr.addS (drr.fresh 40) 1 sb1 p)) ⟨2, fb2, true, qb2, .slice none 0 0, que.fresh 5 1000⟩ (drr.addS (drr.addS (drr.fresh 40) 1 sb1 p) 2 sb2 q)))
    (hb : Blk w4 sb #[.int .i64 0, .int .i64 0, .int .i64 0] A3) (hs : w1.heap.size ≤ sb) (z1 : 1 ≤ z) :
    LS w1 w4 A (addE (addE (fresh 5 1000 100 40 3) ⟨1, fb1, true, qb1, .slice none 0 0, que.fresh 5 1000⟩ (drr.addS (drr.fresh 40) 1 sb1 p)) ⟨2, fb2, true, qb2, .slice none 0 0, que.fresh 5 1000⟩ (drr.addS (drr.addS (drr.fresh 40) 1 sb1 p) 2 sb2 q)) sb z p q (fun _ => 0) 0 0 0 0 := by
  refine ⟨⟨h, ⟨rfl, ⟨fb1, qb1, .slice none 0 0, [], true, fb2, qb2, .slice none 0 0, [], true, rfl, ⟨rfl, fun x hx => by cases hx⟩, ⟨rfl, fun x hx => by cases hx⟩⟩, ⟨sb1, sb2, 0, 0, rfl, Int.le_refl _, Int.le_refl _, .inl ⟨rfl, rfl, rfl, rfl, rfl, rfl⟩⟩⟩, hb, hs⟩, Nat.zero_le _, Nat.zero_le _, Int.le_refl _, ?_, Int.le_refl _, Int.le_refl _, Int.le_refl _, Int.le_refl _, Int.le_refl _, Int.le_refl _, Nat.le_refl _⟩
  show (0 : Int) < z
  omega
theorem sum_of {z : Int} {l : List Snt} {j : Nat} (i : Int) (u : Int) (h : j = l.length) : u + z * cnt i (l.take j) = u + z * cnt i l := by rw [h, List.take_length]
theorem cnt_le (i : Int) (l : List Snt) : cnt i l ≤ l.length := List.countP_le_length

theorem fill {id : Nat} {c' cx : Int → Nat} (hid : (id : Int) = 1 ∨ (id : Int) = 2) (h5 : cx id = 5) (hy : ∀ i : Int, i ≠ (id : Int) → cx i = c' i) (h1 : c' 1 ≤ 5) (h2 : c' 2 ≤ 5) (h3 : 2 ≤ id → c' 1 = 5) : cx 1 ≤ 5 ∧ cx 2 ≤ 5 ∧ (2 ≤ id + 1 → cx 1 = 5) ∧ (3 ≤ id + 1 → cx 2 = 5) := by
  rcases hid with e | e
  · rw [e] at h5
    have := hy 2 (by rw [e]; decide)
    exact ⟨by omega, by omega, fun _ => h5, fun h => by omega⟩
  · rw [e] at h5
    have := hy 1 (by rw [e]; decide)
    have := h3 (by omega)
    exact ⟨by omega, by omega, fun _ => by omega, fun _ => h5⟩
/-- in the loop over what went out: j of them are told and put again -/
structure LO (w1 wx : World) (A : Ad) (e : Eo) (sb : Nat) (z p q : Int) (c : Int → Nat) (u1 u2 : Int) (l : List Snt) (v : Value) (j : Nat) (cr rw_ : Int) : Prop where
  sl : SL w1 wx A e sb z p q c (u1 + z * cnt 1 l) (u2 + z * cnt 2 l) (u1 + z * cnt 1 (l.take j)) (u2 + z * cnt 2 (l.take j))
  c1 : c 1 + cnt 1 l = 5 + cnt 1 (l.take j)
  c2 : c 2 + cnt 2 l = 5 + cnt 2 (l.take j)
  cr : e.credit = cr
  rw_ : e.row = rw_
  own : Owns SE SeT wx v l
theorem inc_sum {u z : Int} {i : Int} {l : List Snt} {j : Nat} {x : Snt} (h : l[j]? = some x) (hx : x.id = i) : u + z * cnt i (l.take (j + 1)) = u + z * cnt i (l.take j) + z := by
  rw [cnt_take h, if_pos hx]
  push_cast
  rw [Int.mul_add, Int.mul_one]
  omega
theorem inc_not {u z : Int} {i : Int} {l : List Snt} {j : Nat} {x : Snt} (h : l[j]? = some x) (hx : x.id ≠ i) : u + z * cnt i (l.take (j + 1)) = u + z * cnt i (l.take j) := by
  rw [cnt_take h, if_neg hx]
  rfl

set_option maxRecDepth 100000 in
set_option maxHeartbeats 8000000 in
theorem shares_law (a0 b0 c0 : Int) (ao : Option Addr) (n c : Nat) (g : Nat → Int) (w : World) (ha0 : -9223372036854775808 ≤ a0) (ha1 : a0 ≤ 9223372036854775807) (hb0 : -9223372036854775808 ≤ b0) (hb1 : b0 ≤ 9223372036854775807) (hc0 : -9223372036854775808 ≤ c0) (hc1 : c0 ≤ 9223372036854775807) (h : args.IntRow .i64 w ao n c g) :
    Calls Tryz.prog 5 #[.int .i64 a0, .int .i64 b0, .int .i64 c0, .slice ao n c] w fun e w' => e = .returned (.bool true) ∧ Below w.heap.size w w' := by
  have HL := Lib.hid (top.live w)
  have M6 := mask.mask6 a0
  have M7 := mask.mask6 b0
  have M8 := mask.mask8 c0
  obtain ⟨p, hp, hp0, hp1⟩ : ∃ p : Int, 40 + a0 % 64 = p ∧ 40 ≤ p ∧ p ≤ 103 := ⟨_, rfl, by omega, by omega⟩
  obtain ⟨q, hq, hq0, hq1⟩ : ∃ q : Int, 40 + b0 % 64 = q ∧ 40 ≤ q ∧ q ≤ 103 := ⟨_, rfl, by omega, by omega⟩
  obtain ⟨z, hz, hz0, hz1⟩ : ∃ z : Int, 1 + c0 % 256 % 40 = z ∧ 1 ≤ z ∧ z ≤ 40 := ⟨_, rfl, by omega, by omega⟩
  have W1 : IntKind.i64.wrap (40 + a0 % 64) = p := by rw [hp]; exact IntWalk.i64_in _ (by omega)
  have W2 : IntKind.i64.wrap (40 + b0 % 64) = q := by rw [hq]; exact IntWalk.i64_in _ (by omega)
  have W3 : IntKind.i64.wrap (1 + c0 % 256 % 40) = z := by rw [hz]; exact IntWalk.i64_in _ (by omega)
  have W4 : 0 ≤ c0 % 256 := by omega
  have HP : Hid (40 ≤ p ∧ p ≤ 103) := Lib.hid ⟨hp0, hp1⟩
  have HQ : Hid (40 ≤ q ∧ q ≤ 103) := Lib.hid ⟨hq0, hq1⟩
  have HZ : Hid (1 ≤ z ∧ z ≤ 40) := Lib.hid ⟨hz0, hz1⟩
  obtain ⟨hn, _, hrow⟩ := h
  have HROW := Lib.hid hrow
  have HN := Lib.hid (fun W => egr.new_ok 5 1000 100 40 3 W ⟨by omega, by omega, by omega, by omega, by omega⟩)
  clear hrow hp hq hz ha0 ha1 hb0 hb1 hc0 hc1 hp0 hp1 hq0 hq1 hz0 hz1
  go_enter Tryz.func5, Tryz.ntmps5
  go_wp2_with fail
  refine HL.out.mono ?_
  rintro e w1 ⟨rfl, n1⟩
  have HN1 := Lib.hid n1
  clear n1 HL
  go_upto_region 4 with fail
  clear M6 M7 M8 W1 W2 W3 W4
  go_wp2_with fail
  refine (HN.out _).mono ?_
  rintro e w2 ⟨A, rfl, hm⟩
  have HR0 := Lib.hid hm.ru
  clear hm HN
  have HA1 := Lib.hid (add_video A 0 _ 1 p w2 HR0.out.es (by decide) (by decide) rfl (by decide) HP.out.1 (by have := HP.out.2; omega))
  go_wp2_with fail
  refine HA1.out.mono ?_
  rintro e w3 ⟨rfl, fb1, qb1, sb1, hf, hq, hsb, hes, ht⟩
  have HR1 := Lib.hid (HR0.out.add hes ht hq rfl (fun g hg => by
    rcases List.mem_append.1 hg with hg | hg
    · exact .inl hg
    · simp at hg; subst hg
      exact .inr hsb))
  clear hf hq hsb hes ht HA1 HR0
  have HA2 := Lib.hid (add_video A 1 _ 2 q w3 HR1.out.es (by decide) (by decide) rfl (by decide) HQ.out.1 (by have := HQ.out.2; omega))
  go_wp2_with fail
  refine HA2.out.mono ?_
  rintro e w4 ⟨rfl, fb2, qb2, sb2, hf, hq, hsb, hes, ht⟩
  have HR2 := Lib.hid (HR1.out.add hes ht hq rfl (fun g hg => by
    rcases List.mem_append.1 hg with hg | hg
    · exact .inl hg
    · simp at hg; subst hg
      exact .inr hsb))
  clear hf hq hsb hes ht HA2 HR1
  go_upto_region 9 with fail
  have HS0 := Lib.hid (SL.start (z := z) (HR2.out.later ((Turns.refl _ w4).alloc (.cells #[.int .i64 0, .int .i64 0, .int .i64 0] A3))) (Blk.new w4 _ _) (Nat.le_trans HR2.out.sf.t.size (Nat.le_refl _)) HZ.out.1)
  generalize addE _ _ _ = e0 at *
  refine (show Code.wp _ _ _ _ (w4.alloc (.cells #[.int .i64 0, .int .i64 0, .int .i64 0] A3)) from ?_)
  generalize w4.alloc (.cells #[.int .i64 0, .int .i64 0, .int .i64 0] A3) = w5 at *
  generalize w4.heap.size = sb at *
  clear HR2
  go_wp2_with fail
  go_loopw [11, 13] (fun m i wr => ∃ (k mm : Nat) (e : Eo) (c : Int → Nat) (u1 u2 : Int), k ≤ n ∧ k ≤ 60 ∧ m = .int .i64 mm ∧ i = .int .i64 k ∧ LS w1 wr A e sb z p q c u1 u2 k mm) (fun _ i _ => n - (intOf i).toNat)
  case atStart => exact ⟨0, 0, _, _, _, _, Nat.zero_le _, by omega, rfl, rfl, HS0.out⟩
  case round =>
    obtain ⟨k, mm, e, cc, u1, u2, hk, hk60, rfl, rfl, hls⟩ := hrel
    have HLS := Lib.hid hls
    clear hls HS0
    by_cases hgo : k < n ∧ k < 60
    · obtain ⟨hlt, h60⟩ := hgo
      obtain ⟨bq, off, rfl, hb, hc⟩ := HROW.out.resolve_left (by omega)
      have HGR : Hid (∀ W, Sf w1.heap.size A w1 W → W.cell? ⟨bq, off + k, none⟩ = some (.int .i64 (g k))) := Lib.hid (fun W hs => (hs.t.cell (a := ⟨bq, off + k, none⟩) (Nat.lt_of_lt_of_le hb HN1.out.size) (Nat.not_le_of_lt (Nat.lt_of_lt_of_le hb HN1.out.size))).trans ((HN1.out.cell (a := ⟨bq, off + k, none⟩) hb (fun h => h)).trans (hc k hlt)))
      clear hb hc
      have d1 : decide ((k : Int) < (n : Int)) = true := decide_eq_true (by omega)
      have d2 : decide ((k : Int) < 60) = true := decide_eq_true (by omega)
      have j0 : (0 : Int) ≤ (k : Int) := by omega
      have j1 : (k : Int) < (n : Int) := by omega
      generalize g k = gk at *
      go_upto_region 12 with fail
      go_wp2_with fail
      go_loopw [11, 14] (fun m i wx => ∃ (mm' id : Nat) (e' : Eo) (c' : Int → Nat), m = .int .i64 mm' ∧ i = .int .i64 id ∧ 1 ≤ id ∧ id ≤ 3 ∧ SL w1 wx A e' sb z p q c' u1 u2 u1 u2 ∧ c' 1 ≤ 5 ∧ c' 2 ≤ 5 ∧ (2 ≤ id → c' 1 = 5) ∧ (3 ≤ id → c' 2 = 5) ∧ e'.credit = e.credit ∧ e'.row = e.row ∧ mm' ≤ mm + 5 * (id - 1)) (fun _ i _ => 3 - (intOf i).toNat)
      case atStart => exact ⟨mm, 1, e, cc, rfl, rfl, by omega, by omega, HLS.out.sl, HLS.out.c1, HLS.out.c2, (fun h => by omega), (fun h => by omega), rfl, rfl, by omega⟩
      case round =>
        obtain ⟨mm', id, e', c', rfl, rfl, hi1, hi3, hsl, hc1, hc2, hc3, hc4, hcr, hrw, hmm⟩ := hrel
        have HSL := Lib.hid hsl
        have HC := Lib.hid (And.intro hc1 (And.intro hc2 (And.intro hc3 (And.intro hc4 (And.intro hcr (And.intro hrw hmm))))))
        clear hsl hc1 hc2 hc3 hc4 hcr hrw hmm
        by_cases hid3 : id ≤ 2
        · have d3 : decide ((id : Int) ≤ 2) = true := decide_eq_true (by omega)
          have HID : Hid ((id : Int) = 1 ∨ (id : Int) = 2) := Lib.hid (by omega)
          have HCI : Hid (c' (id : Int) ≤ 5) := Lib.hid (by rcases HID.out with h | h <;> rw [h]; exact HC.out.1; exact HC.out.2.1)
          obtain ⟨N, hN⟩ : ∃ N, N = mm' + (5 - c' (id : Int)) := ⟨_, rfl⟩
          have HNN := Lib.hid hN
          clear hN
          go_wp2_with fail
          go_loopw [11] (fun m wx => ∃ (mx : Nat) (ex : Eo) (cx : Int → Nat), m = .int .i64 mx ∧ SL w1 wx A ex sb z p q cx u1 u2 u1 u2 ∧ cx (id : Int) ≤ 5 ∧ (∀ i : Int, i ≠ (id : Int) → cx i = c' i) ∧ ex.credit = e.credit ∧ ex.row = e.row ∧ mx + (5 - cx (id : Int)) = N) (fun m _ => N - (intOf m).toNat)
          case atStart => exact ⟨mm', e', c', rfl, HSL.out, HCI.out, (fun _ _ => rfl), HC.out.2.2.2.2.1, HC.out.2.2.2.2.2.1, HNN.out.symm⟩
          case round =>
            obtain ⟨mx, ex, cx, rfl, hslx, hcx, hcy, hcrx, hrwx, hmx⟩ := hrel
            have HSX := Lib.hid hslx
            have HCX := Lib.hid (And.intro hcx (And.intro hcy (And.intro hcrx (And.intro hrwx hmx))))
            have HNB : Hid (mx ≤ 10000) := Lib.hid (by have := HLS.out.m; have := HC.out.2.2.2.2.2.2; have := HNN.out; omega)
            clear hslx hcy hcrx hrwx
            have HWT := Lib.hid (HSX.out.waits HID.out)
            go_wp2_with fail
            refine HWT.out.mono ?_
            rintro e w6 ⟨sz, rfl, n6⟩
            have HS6 := Lib.hid (HSX.out.later n6)
            clear n6 HWT
            by_cases h5 : cx (id : Int) = 5
            · have q5 : ((cx (id : Int) : Int) == 5) = true := by rw [h5]; rfl
              have hw : IntKind.i64.wrap ((id : Int) + 1) = (id : Int) + 1 := IntWalk.i64_in _ (by omega)
              have H5 := Lib.hid h5
              clear h5 hcx hmx
              go_wp2_with fail
              go_roundw
              case rel =>
                obtain ⟨f1, f2, f3, f4⟩ := fill HID.out H5.out HCX.out.2.1 HC.out.1 HC.out.2.1 HC.out.2.2.1
                have hcx2 := HCX.out.2.2.2.2
                have hc2 := HC.out.2.2.2.2.2.2
                have hnn := HNN.out
                exact ⟨mx, id + 1, ex, cx, rfl, by push_cast; go_num, by omega, by omega, HS6.out, f1, f2, f3, f4, HCX.out.2.2.1, HCX.out.2.2.2.1, by omega⟩
              case measure => simp [intOf]; omega
            · have q5 : ((cx (id : Int) : Int) == 5) = false := by simp; omega
              have hw : IntKind.i64.wrap ((mx : Int) + 1) = (mx : Int) + 1 := IntWalk.i64_in _ (by have := HNB.out; omega)
              have HPUT := Lib.hid (HS6.out.put HID.out (by omega) HZ.out.1 HZ.out.2 ((mx : Int) + 1))
              have H5 := Lib.hid h5
              clear h5 hcx
              go_wp2_with fail
              refine HPUT.out.mono ?_
              rintro e w7 ⟨aq, mq, cq, e7, rfl, hs7, hk1, hk2, _⟩
              have HS7 := Lib.hid hs7
              have HK := Lib.hid (And.intro hk1 hk2)
              clear hs7 HPUT hk1 hk2
              go_wp2_with fail
              go_roundw
              case rel =>
                have h5 := H5.out
                have hcx1 := HCX.out.1
                have hcx2 := HCX.out.2.2.2.2
                exact ⟨mx + 1, e7, incC cx (id : Int), by push_cast; go_num, HS7.out, by rw [incC_same]; omega, (fun i hi => (incC_other hi).trans (HCX.out.2.1 i hi)), HK.out.1.trans HCX.out.2.2.1, HK.out.2.trans HCX.out.2.2.2.1, by rw [incC_same]; omega⟩
              case measure =>
                have h5 := H5.out
                have hcx1 := HCX.out.1
                have hcx2 := HCX.out.2.2.2.2
                simp [intOf, hw]; omega
        · have d3 : decide ((id : Int) ≤ 2) = false := decide_eq_false (by omega)
          have HF : Hid (c' 1 = 5 ∧ c' 2 = 5) := Lib.hid ⟨HC.out.2.2.1 (by omega), HC.out.2.2.2.1 (by omega)⟩
          have HCE : Hid (e'.credit = e.credit ∧ e'.row = e.row ∧ mm' ≤ mm + 10) := Lib.hid ⟨HC.out.2.2.2.2.1, HC.out.2.2.2.2.2.1, by have := HC.out.2.2.2.2.2.2; omega⟩
          have e0 := HGR.out _ HSL.out.ru.sf
          have M7 := mask.mask7 gk
          have W5 : IntKind.i64.wrap (3 * z) = 3 * z := IntWalk.i64_in _ (by have := HZ.out; omega)
          obtain ⟨gr, hgr⟩ : ∃ gr, min (gk % 128) (3 * z) = gr := ⟨_, rfl⟩
          have HGB : Hid (0 ≤ gr ∧ gr ≤ 3 * z ∧ 3 * z ≤ 120) := Lib.hid (by have := HZ.out; omega)
          have HGT := Lib.hid (HSL.out.grant gr HGB.out.1 (by have := HGB.out; omega) (by have := HLS.out.cr1; have := HCE.out.1; have := HZ.out; omega))
          have HG0 := Lib.hid hgr
          clear hgr
          go_upto_region 22 with (first | (rw [HG0.out]; refine HGT.out.mono ?_; rintro e w6 ⟨e6, rfl, hs6, hcr6, hrw6⟩))
          have HS6 := Lib.hid hs6
          have HCR6 : Hid (0 ≤ e6.credit ∧ e6.credit < 4 * z ∧ 0 ≤ e6.row ∧ e6.row ≤ 10 * (k : Int)) := Lib.hid (by
            have h1 := HLS.out.cr0
            have h2 := HLS.out.cr1
            have h3 := HLS.out.r0
            have h4 := HLS.out.r1
            have h5 := HCE.out
            have h6 := HGB.out
            omega)
          clear hs6 hcr6 hrw6 HGT e0 M7 W5
          have HRUN := Lib.hid (HS6.out.run HF.out.1 HF.out.2 HP.out.1 HQ.out.1 HZ.out.1 HZ.out.2 HCR6.out.1 HCR6.out.2.1 HCR6.out.2.2.1 (by have := HCR6.out.2.2.2; omega))
          go_wp2_with fail
          refine HRUN.out.mono ?_
          rintro e w7 ⟨v, l, e7, c7, rfl, hrn⟩
          obtain ⟨al, cl, hv, _⟩ := hrn.own.form
          have HRN := Lib.hid hrn
          obtain ⟨nl, hnl⟩ : ∃ nl, nl = l.length := ⟨_, rfl⟩
          have HNL := Lib.hid hnl
          rw [← hnl] at hv
          clear hrn hnl HRUN
          subst hv
          have HL0 : Hid (LO w1 w7 A e7 sb z p q c7 u1 u2 l (.slice al nl cl) 0 e7.credit e7.row) := Lib.hid ⟨by have h := HRN.out.sl; simpa [cnt] using h, HRN.out.c1, HRN.out.c2, rfl, rfl, HRN.out.own⟩
          have HMB : Hid (mm' ≤ 10000) := Lib.hid (by have := HLS.out.m; have := HCE.out.2.2; omega)
          go_wp2_with fail
          go_loopw [11, 102] (fun m i wx => ∃ (j mx : Nat) (ex : Eo) (cx : Int → Nat), j ≤ nl ∧ mx = mm' + j ∧ m = .int .i64 mx ∧ i = .int .i64 j ∧ LO w1 wx A ex sb z p q cx u1 u2 l (.slice al nl cl) j e7.credit e7.row) (fun _ i _ => nl - (intOf i).toNat)
          case atStart => exact ⟨0, mm', e7, c7, Nat.zero_le _, rfl, rfl, rfl, HL0.out⟩
          case round =>
            obtain ⟨j, mx, ex, cx, hj, hmx, rfl, rfl, hlo⟩ := hrel
            have HLO := Lib.hid hlo
            have HMX := Lib.hid hmx
            have HL3 : Hid (nl ≤ 3) := Lib.hid (by have := HRN.out.len; have := HNL.out; omega)
            clear hlo hmx HL0
            by_cases hjn : j < nl
            · obtain ⟨x, hx⟩ : ∃ x, l[j]? = some x := ⟨_, List.getElem?_eq_getElem (by have := HNL.out; omega)⟩
              have HX := Lib.hid hx
              have HXI := Lib.hid (HRN.out.id x (List.mem_of_getElem? hx))
              obtain ⟨gx, hgx, hgl, hcell⟩ := own_at HLO.out.own hx
              subst hgx
              have z0 := hcell 0 _ rfl
              have z1 := hcell 1 _ rfl
              have z2 := hcell 2 _ rfl
              have z3 := hcell 3 _ rfl
              have z4 := hcell 4 _ rfl
              change wr.cell? ⟨gx, j * 5, none⟩ = some (.int .i64 x.id) at z0
              change wr.cell? ⟨gx, j * 5 + 1, none⟩ = some (.int .i64 x.x.n) at z1
              change wr.cell? ⟨gx, j * 5 + 2, none⟩ = some (.int .i64 x.x.size) at z2
              change wr.cell? ⟨gx, j * 5 + 3, none⟩ = some (.int .i64 x.x.tick) at z3
              change wr.cell? ⟨gx, j * 5 + 4, none⟩ = some (.bool x.x.key) at z4
              have d4 : decide ((j : Int) < (nl : Int)) = true := decide_eq_true (by omega)
              have j3 : (j : Int) < (nl : Int) := by omega
              have hw : IntKind.i64.wrap ((j : Int) + 1) = (j : Int) + 1 := IntWalk.i64_in _ (by have := HL3.out; omega)
              have hw2 : IntKind.i64.wrap ((mx : Int) + 1) = (mx : Int) + 1 := IntWalk.i64_in _ (by have := HL3.out; have := HMX.out; have := HMB.out; omega)
              clear hx hcell
              generalize x.x.n = xn at *
              generalize x.x.size = xs at *
              generalize x.x.tick = xt at *
              generalize x.x.key = xk at *
              obtain ⟨xi, hxi⟩ : ∃ xi, x.id = xi := ⟨_, rfl⟩
              have HXE := Lib.hid hxi
              rw [hxi] at z0 HXI
              clear hxi
              have HB : Hid (Blk (wr.alloc (.cells #[.int .i64 xi, .int .i64 xn, .int .i64 xs, .int .i64 xt, .bool xk] SeT)) wr.heap.size #[.int .i64 xi, .int .i64 xn, .int .i64 xs, .int .i64 xt, .bool xk] SeT) := Lib.hid (Blk.new _ _ _)
              have HS8 := Lib.hid (HLO.out.sl.later ((Turns.refl _ wr).alloc (.cells #[.int .i64 xi, .int .i64 xn, .int .i64 xs, .int .i64 xt, .bool xk] SeT)))
              have HO8 := Lib.hid (HLO.out.own.turns (S := fun _ => False) ((Turns.refl _ wr).alloc (.cells #[.int .i64 xi, .int .i64 xn, .int .i64 xs, .int .i64 xt, .bool xk] SeT)) (fun _ _ h => h))
              have HPX : Hid (wr.heap.size ≠ sb) := Lib.hid (Nat.ne_of_gt HLO.out.sl.sent.lt)
              go_upto_region 25 with fail
              refine (show Code.wp _ _ _ _ (wr.alloc (.cells #[.int .i64 xi, .int .i64 xn, .int .i64 xs, .int .i64 xt, .bool xk] SeT)) from ?_)
              generalize wr.alloc (.cells #[.int .i64 xi, .int .i64 xn, .int .i64 xs, .int .i64 xt, .bool xk] SeT) = w8 at *
              generalize wr.heap.size = px at *
              clear z0 z1 z2 z3 z4 hgl
              have z0 : w8.cell? ⟨px, 0, none⟩ = some (.int .i64 xi) := HB.out.cell 0
              obtain ⟨V1, hV1⟩ : ∃ V1, u1 + z * cnt 1 (l.take j) = V1 := ⟨_, rfl⟩
              obtain ⟨V2, hV2⟩ : ∃ V2, u2 + z * cnt 2 (l.take j) = V2 := ⟨_, rfl⟩
              have HV1 := Lib.hid hV1
              have HV2 := Lib.hid hV2
              have HVB : Hid (0 ≤ V1 ∧ V1 ≤ 10000 ∧ 0 ≤ V2 ∧ V2 ≤ 10000) := Lib.hid (by
                have h1 := cnt_le 1 (l.take j)
                have h2 := cnt_le 2 (l.take j)
                have h3 : (l.take j).length ≤ 3 := by rw [List.length_take]; have := HL3.out; have := HNL.out; omega
                have h4 := HLS.out
                have h5 := HZ.out
                have m1 : 0 ≤ z * (cnt 1 (l.take j) : Int) := Int.mul_nonneg (by omega) (by omega)
                have m2 : 0 ≤ z * (cnt 2 (l.take j) : Int) := Int.mul_nonneg (by omega) (by omega)
                have m3 : z * (cnt 1 (l.take j) : Int) ≤ z * 3 := Int.mul_le_mul_of_nonneg_left (by omega) (by omega)
                have m4 : z * (cnt 2 (l.take j) : Int) ≤ z * 3 := Int.mul_le_mul_of_nonneg_left (by omega) (by omega)
                have := h4.a0
                have := h4.a1
                have := h4.b0
                have := h4.b1
                omega)
              rw [hV1, hV2] at HS8
              have hsb := HS8.out.sent
              clear hV1 hV2
              have b0 := hsb.cell 0
              have b1 := hsb.cell 1
              have b2 := hsb.cell 2
              have g1 := hsb.free 1
              have g2 := hsb.free 2
              change w8.cell? ⟨sb, 0, none⟩ = some (.int .i64 0) at b0
              change w8.cell? ⟨sb, 1, none⟩ = some (.int .i64 V1) at b1
              change w8.cell? ⟨sb, 2, none⟩ = some (.int .i64 V2) at b2
              have hxi := HXI.out
              clear HXI
              rcases hxi with rfl | rfl
              · obtain ⟨Y, hY⟩ : ∃ Y, Y = V1 + z := ⟨_, rfl⟩
                have HY := Lib.hid hY
                have hw3 : IntKind.i64.wrap (V1 + z) = Y := by rw [hY]; exact IntWalk.i64_in _ (by have := HVB.out; have := HZ.out; omega)
                have HCL : Hid (cx 1 < 5) := Lib.hid (by
                  have h1 := HLO.out.c1
                  have h2 := cnt_more HX.out HXE.out
                  omega)
                have T9 : Turns (· = sb) w8 (w8.setCell ⟨sb, 1, none⟩ (.int .i64 Y)) := (Turns.refl (· = sb) _).setCell (.inl rfl) _
                have HS9 : Hid (SL w1 (w8.setCell ⟨sb, 1, none⟩ (.int .i64 Y)) A ex sb z p q cx (u1 + z * cnt 1 l) (u2 + z * cnt 2 l) Y V2) := Lib.hid (HS8.out.store T9 (hsb.set 1 _))
                have HB9 := Lib.hid (T9.blk HB.out HPX.out)
                have HO9 := Lib.hid (HO8.out.turns T9 (fun g hg e => own_ne HO8.out hsb (by decide) (by rw [hg, e])))
                clear hY hsb T9
                go_upto_region 26 with fail
                refine (show Code.wp _ _ _ _ (w8.setCell ⟨sb, 1, none⟩ (.int .i64 Y)) from ?_)
                generalize w8.setCell ⟨sb, 1, none⟩ (.int .i64 Y) = w9 at *
                clear z0 b0 b1 b2 g1 g2 hw3
                have z0 : w9.cell? ⟨px, 0, none⟩ = some (.int .i64 1) := HB9.out.cell 0
                have HPUT := Lib.hid (HS9.out.put (id := 1) (.inl rfl) HCL.out HZ.out.1 HZ.out.2 ((mx : Int) + 1))
                go_wp2_with fail
                refine HPUT.out.mono ?_
                rintro e w10 ⟨aq, mq, cq, e10, rfl, hs10, hk1, hk2, hsf10⟩
                have HS10 := Lib.hid hs10
                have HO10 := Lib.hid (hsf10.row HO9.out (by decide) (by decide) (by decide) (by decide) (by decide))
                have HK := Lib.hid (And.intro hk1 hk2)
                clear hs10 hsf10 hk1 hk2 HPUT z0
                go_wp2_with fail
                go_roundw
                case rel => exact ⟨j + 1, mx + 1, e10, incC cx 1, by omega, by have := HMX.out; omega, by push_cast; go_num, by push_cast; go_num, ⟨by rw [inc_sum HX.out HXE.out, inc_not HX.out (by rw [HXE.out]; decide), HV1.out, HV2.out, ← HY.out]; exact HS10.out, (by rw [cnt_take HX.out, if_pos HXE.out, incC_same]; have := HLO.out.c1; omega), (by rw [cnt_take HX.out, if_neg (by rw [HXE.out]; decide), incC_other (by decide)]; exact HLO.out.c2), HK.out.1.trans HLO.out.cr, HK.out.2.trans HLO.out.rw_, HO10.out⟩⟩
                case measure => simp [intOf, hw]; omega
              · obtain ⟨Y, hY⟩ : ∃ Y, Y = V2 + z := ⟨_, rfl⟩
                have HY := Lib.hid hY
                have hw3 : IntKind.i64.wrap (V2 + z) = Y := by rw [hY]; exact IntWalk.i64_in _ (by have := HVB.out; have := HZ.out; omega)
                have HCL : Hid (cx 2 < 5) := Lib.hid (by
                  have h1 := HLO.out.c2
                  have h2 := cnt_more HX.out HXE.out
                  omega)
                have T9 : Turns (· = sb) w8 (w8.setCell ⟨sb, 2, none⟩ (.int .i64 Y)) := (Turns.refl (· = sb) _).setCell (.inl rfl) _
                have HS9 : Hid (SL w1 (w8.setCell ⟨sb, 2, none⟩ (.int .i64 Y)) A ex sb z p q cx (u1 + z * cnt 1 l) (u2 + z * cnt 2 l) V1 Y) := Lib.hid (HS8.out.store T9 (hsb.set 2 _))
                have HB9 := Lib.hid (T9.blk HB.out HPX.out)
                have HO9 := Lib.hid (HO8.out.turns T9 (fun g hg e => own_ne HO8.out hsb (by decide) (by rw [hg, e])))
                clear hY hsb T9
                go_upto_region 26 with fail
                refine (show Code.wp _ _ _ _ (w8.setCell ⟨sb, 2, none⟩ (.int .i64 Y)) from ?_)
                generalize w8.setCell ⟨sb, 2, none⟩ (.int .i64 Y) = w9 at *
                clear z0 b0 b1 b2 g1 g2 hw3
                have z0 : w9.cell? ⟨px, 0, none⟩ = some (.int .i64 2) := HB9.out.cell 0
                have HPUT := Lib.hid (HS9.out.put (id := 2) (.inr rfl) HCL.out HZ.out.1 HZ.out.2 ((mx : Int) + 1))
                go_wp2_with fail
                refine HPUT.out.mono ?_
                rintro e w10 ⟨aq, mq, cq, e10, rfl, hs10, hk1, hk2, hsf10⟩
                have HS10 := Lib.hid hs10
                have HO10 := Lib.hid (hsf10.row HO9.out (by decide) (by decide) (by decide) (by decide) (by decide))
                have HK := Lib.hid (And.intro hk1 hk2)
                clear hs10 hsf10 hk1 hk2 HPUT z0
                go_wp2_with fail
                go_roundw
                case rel => exact ⟨j + 1, mx + 1, e10, incC cx 2, by omega, by have := HMX.out; omega, by push_cast; go_num, by push_cast; go_num, ⟨by rw [inc_not HX.out (by rw [HXE.out]; decide), inc_sum HX.out HXE.out, HV1.out, HV2.out, ← HY.out]; exact HS10.out, (by rw [cnt_take HX.out, if_neg (by rw [HXE.out]; decide), incC_other (by decide)]; exact HLO.out.c1), (by rw [cnt_take HX.out, if_pos HXE.out, incC_same]; have := HLO.out.c2; omega), HK.out.1.trans HLO.out.cr, HK.out.2.trans HLO.out.rw_, HO10.out⟩⟩
                case measure => simp [intOf, hw]; omega
            · have d4 : decide ((j : Int) < (nl : Int)) = false := decide_eq_false (by omega)
              have d4' : decide (j < nl) = false := decide_eq_false hjn
              have HJ : Hid (j = l.length) := Lib.hid (by have := HNL.out; omega)
              have hsl := HLO.out.sl
              rw [sum_of 1 u1 HJ.out, sum_of 2 u2 HJ.out] at hsl
              have HSE := Lib.hid hsl
              have HBD := Lib.hid (hsl.sh.d.bound HP.out.1 HQ.out.1)
              have HUB : Hid ((0 ≤ u1 + z * cnt 1 l ∧ u1 + z * cnt 1 l ≤ 120 * ((k + 1 : Nat) : Int)) ∧ (0 ≤ u2 + z * cnt 2 l ∧ u2 + z * cnt 2 l ≤ 120 * ((k + 1 : Nat) : Int))) := Lib.hid (by
                have h1 := cnt_le 1 l
                have h2 := cnt_le 2 l
                have h3 := HRN.out.len
                have h4 := HLS.out
                have h5 := HZ.out
                have m1 : 0 ≤ z * (cnt 1 l : Int) := Int.mul_nonneg (by omega) (by omega)
                have m2 : 0 ≤ z * (cnt 2 l : Int) := Int.mul_nonneg (by omega) (by omega)
                have m3 : z * (cnt 1 l : Int) ≤ z * 3 := Int.mul_le_mul_of_nonneg_left (by omega) (by omega)
                have m4 : z * (cnt 2 l : Int) ≤ z * 3 := Int.mul_le_mul_of_nonneg_left (by omega) (by omega)
                have := h4.a0
                have := h4.a1
                have := h4.b0
                have := h4.b1
                push_cast
                omega)
              have HC5 : Hid (cx 1 = 5 ∧ cx 2 = 5) := Lib.hid (by
                have h1 := HLO.out.c1
                have h2 := HLO.out.c2
                rw [HJ.out, List.take_length] at h1 h2
                omega)
              clear hsl
              generalize u1 + z * (cnt 1 l : Int) = U1 at *
              generalize u2 + z * (cnt 2 l : Int) = U2 at *
              have hsb := HSE.out.sent
              have b1 := hsb.cell 1
              have b2 := hsb.cell 2
              change wr.cell? ⟨sb, 1, none⟩ = some (.int .i64 U1) at b1
              change wr.cell? ⟨sb, 2, none⟩ = some (.int .i64 U2) at b2
              have m1 : 0 ≤ U1 * q := Int.mul_nonneg HUB.out.1.1 (by have := HQ.out.1; omega)
              have m2 : 0 ≤ U2 * p := Int.mul_nonneg HUB.out.2.1 (by have := HP.out.1; omega)
              have m3 : U1 * q ≤ 7320 * q := Int.mul_le_mul_of_nonneg_right (by have := HUB.out.1.2; omega) (by have := HQ.out.1; omega)
              have m4 : U2 * p ≤ 7320 * p := Int.mul_le_mul_of_nonneg_right (by have := HUB.out.2.2; omega) (by have := HP.out.1; omega)
              have m5 : 0 ≤ p * q := Int.mul_nonneg (by have := HP.out.1; omega) (by have := HQ.out.1; omega)
              have m6 : p * q ≤ 103 * q := Int.mul_le_mul_of_nonneg_right (by have := HP.out.2; omega) (by have := HQ.out.1; omega)
              have hbd := HBD.out
              have hpb := HP.out
              have hqb := HQ.out
              obtain ⟨X1, hX1⟩ : ∃ X, X = U1 * q := ⟨_, rfl⟩
              obtain ⟨X2, hX2⟩ : ∃ X, X = U2 * p := ⟨_, rfl⟩
              obtain ⟨PQ, hPQ⟩ : ∃ X, X = p * q := ⟨_, rfl⟩
              rw [← hX1] at m1 m3 hbd
              rw [← hX2] at m2 m4 hbd
              rw [← hPQ] at m5 m6 hbd
              have w1' : IntKind.i64.wrap (U1 * q) = X1 := by rw [← hX1]; exact IntWalk.i64_in _ (by omega)
              have w2' : IntKind.i64.wrap (U2 * p) = X2 := by rw [← hX2]; exact IntWalk.i64_in _ (by omega)
              have w3' : IntKind.i64.wrap (X1 - X2) = X1 - X2 := IntWalk.i64_in _ (by omega)
              have w4' : IntKind.i64.wrap (p * q) = PQ := by rw [← hPQ]; exact IntWalk.i64_in _ (by omega)
              have w5' : IntKind.i64.wrap (40 * p) = 40 * p := IntWalk.i64_in _ (by omega)
              have w6' : IntKind.i64.wrap (PQ + 40 * p) = PQ + 40 * p := IntWalk.i64_in _ (by omega)
              have w7' : IntKind.i64.wrap (40 * q) = 40 * q := IntWalk.i64_in _ (by omega)
              have w8' : IntKind.i64.wrap (PQ + 40 * p + 40 * q) = PQ + 40 * p + 40 * q := IntWalk.i64_in _ (by omega)
              have w9' : IntKind.i64.wrap (-(X1 - X2)) = -(X1 - X2) := IntWalk.i64_in _ (by omega)
              have f1 : decide (PQ + 40 * p + 40 * q < X1 - X2) = false := decide_eq_false (by omega)
              have f2 : decide (PQ + 40 * p + 40 * q < -(X1 - X2)) = false := decide_eq_false (by omega)
              have hw : IntKind.i64.wrap ((k : Int) + 1) = (k : Int) + 1 := IntWalk.i64_in _ (by omega)
              clear m1 m2 m3 m4 m5 m6 hbd hpb hqb hX1 hX2 hPQ hjn hj hsb
              go_wp2_with fail
              go_roundw
              case rel =>
                have hls := HLS.out
                have hrn := HRN.out
                have hlo := HLO.out
                refine ⟨k + 1, mx, ex, cx, U1, U2, by omega, by omega, rfl, by push_cast; go_num, ⟨HSE.out, Nat.le_of_eq HC5.out.1, Nat.le_of_eq HC5.out.2, ?_, ?_, ?_, ?_, HUB.out.1.1, HUB.out.1.2, HUB.out.2.1, HUB.out.2.2, ?_⟩⟩
                · rw [hlo.cr]; exact hrn.cr0
                · rw [hlo.cr]; exact hrn.cr
                · rw [hlo.rw_]; exact hrn.r0
                · rw [hlo.rw_]
                  have h1 := hrn.r1
                  have h2 := HCR6.out.2.2.2
                  push_cast
                  omega
                · have := hls.m
                  have := HCE.out.2.2
                  have := HMX.out
                  have := HL3.out
                  have := HJ.out
                  have := HNL.out
                  omega
              case measure => simp [intOf, hw]; omega
    · have hx : ¬ k < n ∨ (k < n ∧ ¬ k < 60) := by omega
      clear hgo
      have HBL : Hid (Below w.heap.size w wr) := Lib.hid (Sf.below1 HN1.out HLS.out.sl.ru.sf)
      rcases hx with h1 | ⟨h1, h2⟩
      · have d1 : decide ((k : Int) < (n : Int)) = false := decide_eq_false (by omega)
        go_wp2
        go_ret
        exact ⟨rfl, HBL.out⟩
      · have d1 : decide ((k : Int) < (n : Int)) = true := decide_eq_true (by omega)
        have d2 : decide ((k : Int) < 60) = false := decide_eq_false (by omega)
        go_wp2
        go_ret
        exact ⟨rfl, HBL.out⟩
end Go.Proofs.YtcppibjllaablaaGreat.egr
