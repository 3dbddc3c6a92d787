/-
  vp8: Text.
-/
import Derived.Test.YtcppibjllaablaaGreatVpCheck
import Derived.Test.YtcppibjllaablaaGreatOctLit
import Derived.Outline
namespace Go.Proofs.YtcppibjllaablaaGreat.vp
open Go.RowKit mem rd wr oref sq
set_option linter.unusedVariables false

def bitV (b : Bool) (v : Int) : Int := if b then v else 0
theorem bit_any (b : Bool) (v : Int) (w : World) :
    Calls Tryz.prog 58 #[.bool b, .int .u8 v] w fun e w' => e = .returned (.int .u8 (bitV b v)) ∧ w = w' := by
  cases b
  · go_enter Tryz.func58, Tryz.ntmps58
    go_wp2
    go_ret
    exact ⟨rfl, rfl⟩
  · go_enter Tryz.func58, Tryz.ntmps58
    go_wp2
    go_ret
    exact ⟨rfl, rfl⟩
/-- a new block beside what is written -/
theorem Wrote.alloc {w wr : World} {p : Nat} {q : Option Nat} {ys : List UInt8} (h : Wrote w wr p q ys) (o : Obj) : Wrote w (wr.alloc o) p q ys := by
  obtain ⟨q1, hb, ht, hq⟩ := h
  exact ⟨q1, hb.turns ((Turns.refl (fun _ => False) wr).alloc o) (fun h => h) (fun _ _ h => h), ht.alloc o, hq⟩
theorem Wrote.new {w wr w' : World} {p : Nat} {q : Option Nat} {ys : List UInt8} (h : Wrote w wr p q ys) (k : New wr w') : Wrote w w' p q ys := by
  obtain ⟨q1, hb, ht, hq⟩ := h
  exact ⟨q1, hb.turns k (fun h => h) (fun _ _ h => h), ht.trans (k.mono (fun _ _ h => h.elim)), hq⟩
theorem Turns.drewN {S : Nat → Prop} {a w : World} (h : Turns S a w) (n : Nat) : Turns S a (w.drewN n) := ⟨h.os, h.tape, h.output, h.size, h.block⟩
theorem Wrote.drewN {w wr : World} {p : Nat} {q : Option Nat} {ys : List UInt8} (h : Wrote w wr p q ys) (n : Nat) : Wrote w (wr.drewN n) p q ys := by
  obtain ⟨q1, hb, ht, hq⟩ := h
  exact ⟨q1, hb, Turns.drewN ht n, hq⟩
theorem quiet_eq {P : Program} {f : FuncId} {args : Array Value} {w : World} {n : Nat} {v : Value}
    (h : Calls P f args (w.drewN n) fun e w' => e = .returned v ∧ w.drewN n = w') : Calls P f args (w.drewN n) fun e w'' => e = .returned v ∧ ∃ m, w'' = w.drewN m :=
  Calls.quiet_of_same (h.mono fun _ _ ⟨a, b⟩ => ⟨a, b.symm⟩)
theorem bitV_bd (b : Bool) (v : Int) (h : 0 ≤ v) : 0 ≤ bitV b v ∧ bitV b v ≤ v := by unfold bitV; split <;> omega

/-! ### what is written -/
def fb (d : D) : Int := d.part + bitV d.nr 32 + bitV d.st 16
def fg (d : D) : Int := bitV (decide (0 ≤ d.pic)) 128 + bitV (decide (0 ≤ d.lev)) 64 + bitV (decide (0 ≤ d.lay)) 32 + bitV (decide (0 ≤ d.key)) 16
def lk (d : D) : Int := (if 0 ≤ d.lay then d.lay * 64 + bitV d.sync 32 else 0) + (if 0 ≤ d.key then d.key else 0)
def txPic (d : D) : List UInt8 := if 0 ≤ d.pic then (if d.wide then be 2 (d.pic + 32768) else be 1 d.pic) else []
def txLev (d : D) : List UInt8 := if 0 ≤ d.lev then be 1 d.lev else []
def txLk (d : D) : List UInt8 := if 0 ≤ d.lay ∨ 0 ≤ d.key then be 1 (lk d) else []
def tx (d : D) : List UInt8 := if fg d = 0 then be 1 (fb d) else be 1 (fb d + 128) ++ be 1 (fg d) ++ txPic d ++ txLev d ++ txLk d

/-- the program's sums of bits -/
def fbE (part : Int) (nr st : Bool) : Int := bits .or .u8 (bits .or .u8 part (bitV nr 32)) (bitV st 16)
def fgE (a b c e : Bool) : Int := bits .or .u8 (bits .or .u8 (bits .or .u8 (bitV a 128) (bitV b 64)) (bitV c 32)) (bitV e 16)
theorem fgE_is : ∀ a b c e : Bool, fgE a b c e = bitV a 128 + bitV b 64 + bitV c 32 + bitV e 16 := by decide +kernel
theorem fbE_nat : ∀ n : Nat, n < 8 → ∀ nr st : Bool, fbE n nr st = n + bitV nr 32 + bitV st 16 := by decide +kernel
theorem fbE_is (part : Int) (h0 : 0 ≤ part) (h1 : part ≤ 7) (nr st : Bool) : fbE part nr st = part + bitV nr 32 + bitV st 16 := by
  have := fbE_nat part.toNat (by omega) nr st
  rwa [Int.toNat_of_nonneg h0] at this
theorem or128_nat : ∀ n : Nat, n < 128 → bits .or .u8 n 128 = n + 128 := by decide +kernel
theorem or128 (a : Int) (h0 : 0 ≤ a) (h1 : a < 128) : bits .or .u8 a 128 = a + 128 := by
  have := or128_nat a.toNat (by omega)
  rwa [Int.toNat_of_nonneg h0] at this

theorem or32768 (a : Int) (h0 : 0 ≤ a) (h1 : a ≤ 32767) : bits .or .u16 a 32768 = a + 32768 := by
  rw [u16_or a 32768 h0 (by omega) (by omega) (by omega)]
  have : (32768 : Int).toNat = 1 <<< 15 := by decide
  rw [this, Nat.or_comm, ← Nat.shiftLeft_add_eq_or_of_lt (show a.toNat < 2 ^ 15 by omega)]
  rw [Nat.shiftLeft_eq]
  omega
theorem orKey_nat : ∀ n : Nat, n < 32 → ∀ m : Nat, m < 8 → bits .or .u8 ((m : Int) * 32) n = m * 32 + n := by decide +kernel
theorem orKey (a b : Int) (h0 : 0 ≤ a) (h1 : a < 8) (h2 : 0 ≤ b) (h3 : b < 32) : bits .or .u8 (a * 32) b = a * 32 + b := by
  have := orKey_nat b.toNat (by omega) a.toNat (by omega)
  rwa [Int.toNat_of_nonneg h0, Int.toNat_of_nonneg h2] at this
theorem orSync_nat : ∀ n : Nat, n < 4 → ∀ b : Bool, bits .or .u8 ((n : Int) * 64) (bitV b 32) = n * 64 + bitV b 32 := by decide +kernel
theorem orSync (a : Int) (h0 : 0 ≤ a) (h1 : a < 4) (b : Bool) : bits .or .u8 (a * 64) (bitV b 32) = a * 64 + bitV b 32 := by
  have := orSync_nat a.toNat (by omega) b
  rwa [Int.toNat_of_nonneg h0] at this

/-- two numbers of one byte -/
theorem u8_lit2 {w wr : World} {p : Nat} {q : Option Nat} {ys : List UInt8} (h : Wrote w wr p q ys) (x y : Int) (hx : 0 ≤ x) (hx' : x ≤ 255) (hy : 0 ≤ y) (hy' : y ≤ 255) (hmax : ys.length + 2 ≤ 140737488355328) (B : Nat) (hB : wr.heap.size = B) :
    Calls Tryz.prog 50 #[.pointer (some ⟨p, 0, none⟩), .slice (some ⟨B, 0, none⟩) 2 2] (wr.alloc (.cells #[.int .u8 x, .int .u8 y] 5))
      fun en w' => en = .returned (.pointer (some ⟨p, 0, none⟩)) ∧ Wrote w w' p q (ys ++ (be 1 x ++ be 1 y)) := by
  have e1 : b8 (Go.Proofs.YtcppibjllaablaaGreat.wr.byteOf x) = .int .u8 x := by unfold b8; rw [byteOf_toNat]; rw [show x % 256 = x from by omega]
  have e3 : b8 (Go.Proofs.YtcppibjllaablaaGreat.wr.byteOf y) = .int .u8 y := by unfold b8; rw [byteOf_toNat]; rw [show y % 256 = y from by omega]
  have e2 : be 1 x ++ be 1 y = [Go.Proofs.YtcppibjllaablaaGreat.wr.byteOf x, Go.Proofs.YtcppibjllaablaaGreat.wr.byteOf y] := by simp [be]
  have := u8s_lit h [Go.Proofs.YtcppibjllaablaaGreat.wr.byteOf x, Go.Proofs.YtcppibjllaablaaGreat.wr.byteOf y] (by simp) (by simpa using hmax) B hB
  simp only [List.map_cons, List.map_nil, e1, e3] at this
  rw [e2]
  exact this

theorem tx_wide (d : D) (h : 0 ≤ d.pic) (hw : d.wide = true) : txPic d = be 2 (d.pic + 32768) := by unfold txPic; rw [if_pos h, if_pos hw]
theorem tx_narrow (d : D) (h : 0 ≤ d.pic) (hw : d.wide = false) : txPic d = be 1 d.pic := by unfold txPic; rw [if_pos h, hw]; rfl

set_option maxHeartbeats 1000000 in
theorem putPicture (d : D) (hv : V d) (hp : 0 ≤ d.pic) (p : Nat) (q : Option Nat) (ys : List UInt8) (w wr : World) (h : Wrote w wr p q ys) (hl : ys.length ≤ 1000) :
    Calls Tryz.prog 59 #[.agg (cells d), .pointer (some ⟨p, 0, none⟩)] wr fun e w' => e = .returned (.tuple #[]) ∧ Wrote w w' p q (ys ++ txPic d) := by
  have H1 := hv.pic
  have H2 := hv.narrow
  have HT1 := Lib.hid (tx_wide d hp)
  have HT2 := Lib.hid (tx_narrow d hp)
  obtain ⟨nr, st, part, pic, wide, lev, lay, sync, key⟩ := d
  simp only [cells] at *
  have HA := Lib.hid (Wrote.alloc h (.cells #[.bool nr, .bool st, .int .i64 part, .int .i64 pic, .bool wide, .int .i64 lev, .int .i64 lay, .bool sync, .int .i64 key] DT))
  cases wide
  · have hn := H2 rfl
    have hm := mask.mask7 pic
    rw [show pic % 128 = pic from by omega] at hm
    have hcv : IntKind.u8.wrap pic = pic := by rw [IntKind.wrap_u8]; omega
    have HE := Lib.hid (HT2.out rfl)
    clear H2 HT1 HT2
    go_enter Tryz.func59, Tryz.ntmps59
    go_wp2_with fail
    refine (u8_lit HA.out pic hp (by omega) (by omega) _ (by simp)).mono ?_
    rintro e w1 ⟨rfl, hw1⟩
    go_wp2
    go_end0
    rw [HE.out]
    exact ⟨rfl, hw1⟩
  · have HE := Lib.hid (HT1.out rfl)
    have hcv : IntKind.u16.wrap pic = pic := by rw [IntKind.wrap_u16]; omega
    have hor := or32768 pic hp H1.2
    clear H2 HT1 HT2
    go_enter Tryz.func59, Tryz.ntmps59
    go_wp2_with fail
    refine (u16_lit HA.out (pic + 32768) (by omega) (by omega) (by omega) _ (by simp)).mono ?_
    rintro e w1 ⟨rfl, hw1⟩
    go_wp2
    go_end0
    rw [HE.out]
    exact ⟨rfl, hw1⟩

theorem lkc (d : D) : lk d = (if 0 ≤ d.lay then d.lay * 64 + bitV d.sync 32 else 0) + (if 0 ≤ d.key then d.key else 0) := rfl

set_option maxHeartbeats 1000000 in
theorem layerAndKey (d : D) (hv : V d) (w : World) :
    Calls Tryz.prog 60 #[.agg (cells d)] w fun e w' => e = .returned (.int .u8 (lk d)) ∧ New w w' := by
  have HB := Lib.hid (fun b v w => bit_any b v w)
  have H1 := hv.lay
  have H2 := hv.key
  have HL := Lib.hid (lkc d)
  obtain ⟨nr, st, part, pic, wide, lev, lay, sync, key⟩ := d
  simp only [cells] at *
  have hn0 : New w (w.alloc (.cells #[.bool nr, .bool st, .int .i64 part, .int .i64 pic, .bool wide, .int .i64 lev, .int .i64 lay, .bool sync, .int .i64 key] DT)) := (Turns.refl _ _).alloc _
  have hb0 := Blk.new w #[.bool nr, .bool st, .int .i64 part, .int .i64 pic, .bool wide, .int .i64 lev, .int .i64 lay, .bool sync, .int .i64 key] DT
  have HN := Lib.hid hn0
  have HK := Lib.hid hb0
  clear hn0 hb0
  have hm2 := mask.mask2 lay
  have hm5 := mask.mask5 key
  go_enter Tryz.func60, Tryz.ntmps60
  go_upto_if 6 with fail
  generalize (w.alloc (.cells #[.bool nr, .bool st, .int .i64 part, .int .i64 pic, .bool wide, .int .i64 lev, .int .i64 lay, .bool sync, .int .i64 key] DT)) = w1 at *
  go_cut [3] (fun v wx => v = .int .u8 (if 0 ≤ lay then lay * 64 + bitV sync 32 else 0) ∧ New w wx ∧ Blk wx w.heap.size #[.bool nr, .bool st, .int .i64 part, .int .i64 pic, .bool wide, .int .i64 lev, .int .i64 lay, .bool sync, .int .i64 key] DT)
  case first =>
    obtain ⟨c0, c1, c2, c3, c4, c5, c6, c7, c8⟩ := cells9 HK.out
    by_cases h : 0 ≤ lay
    · have h' : decide (0 ≤ lay) = true := decide_eq_true h
      rw [show lay % 4 = lay from by omega] at hm2
      have hcv : IntKind.u8.wrap lay = lay := by rw [IntKind.wrap_u8]; omega
      have hsh : IntKind.u8.wrap (lay * 64) = lay * 64 := by rw [IntKind.wrap_u8]; omega
      have hor := orSync lay h (by omega) sync
      go_wp2_with fail
      go_quiet ((go_at_call 58; exact quiet_eq (HB.out _ _ _)))
      go_wp2
      go_meet
      case rel =>
        rw [if_pos (by omega)]
        exact ⟨rfl, Turns.drewN HN.out _, HK.out⟩
    · have h' : decide (0 ≤ lay) = false := decide_eq_false h
      go_wp2
      go_meet
      case rel =>
        rw [if_neg (by omega)]
        exact ⟨rfl, HN.out, HK.out⟩
  case rest =>
    obtain ⟨rfl, hn, hk⟩ := hcut
    obtain ⟨c0, c1, c2, c3, c4, c5, c6, c7, c8⟩ := cells9 hk
    clear hk HK HN
    obtain ⟨x, hx, hx0, hx1⟩ : ∃ x, (if 0 ≤ lay then lay * 64 + bitV sync 32 else 0) = x * 32 ∧ 0 ≤ x ∧ x < 8 := by
      by_cases h : 0 ≤ lay
      · rw [if_pos h]
        refine ⟨lay * 2 + bitV sync 1, ?_, ?_, ?_⟩ <;> cases sync <;> simp [bitV] <;> omega
      · rw [if_neg h]; exact ⟨0, by omega, by omega, by omega⟩
    rw [hx]
    have HX := Lib.hid hx
    clear hx
    by_cases h : 0 ≤ key
    · have h' : decide (0 ≤ key) = true := decide_eq_true h
      rw [show key % 32 = key from by omega] at hm5
      have hcv : IntKind.u8.wrap key = key := by rw [IntKind.wrap_u8]; omega
      have hor := orKey x key hx0 hx1 h (by omega)
      go_wp2
      go_ret
      rw [HL.out]
      simp only
      rw [HX.out, if_pos (by omega)]
      exact ⟨rfl, hn⟩
    · have h' : decide (0 ≤ key) = false := decide_eq_false h
      go_wp2
      go_ret
      rw [HL.out]
      simp only
      rw [HX.out, if_neg (by omega), Int.add_zero]
      exact ⟨rfl, hn⟩

theorem fg_is (d : D) : fgE (decide (0 ≤ d.pic)) (decide (0 ≤ d.lev)) (decide (0 ≤ d.lay)) (decide (0 ≤ d.key)) = fg d := fgE_is _ _ _ _
theorem fg_bd (d : D) : 0 ≤ fg d ∧ fg d ≤ 240 := by
  unfold fg
  have := bitV_bd (decide (0 ≤ d.pic)) 128 (by omega)
  have := bitV_bd (decide (0 ≤ d.lev)) 64 (by omega)
  have := bitV_bd (decide (0 ≤ d.lay)) 32 (by omega)
  have := bitV_bd (decide (0 ≤ d.key)) 16 (by omega)
  omega
theorem fb_bd (d : D) (h : V d) : 0 ≤ fb d ∧ fb d ≤ 55 := by
  unfold fb
  have := h.part
  have := bitV_bd d.nr 32 (by omega)
  have := bitV_bd d.st 16 (by omega)
  omega
theorem lk_bd (d : D) (h : V d) : 0 ≤ lk d ∧ lk d ≤ 255 := by
  unfold lk
  have := h.lay
  have := h.key
  have := bitV_bd d.sync 32 (by omega)
  split <;> split <;> omega

set_option maxHeartbeats 2000000 in
theorem text (d : D) (hv : V d) (w : World) :
    Calls Tryz.prog 19 #[.agg (cells d)] w fun e w' => e = .returned (.string ⟨(tx d).toArray⟩) ∧ New w w' := by
  have HB := Lib.hid (fun b v w => bit_any b v w)
  have hpart := hv.part
  have hfb := fb_bd d hv
  have hfg := fg_bd d
  have hlk := lk_bd d hv
  have HFG := Lib.hid (fg_is d)
  have HFB := Lib.hid (fbE_is d.part hpart.1 hpart.2 d.nr d.st)
  have HTX : Hid (tx d = if fg d = 0 then be 1 (fb d) else be 1 (fb d + 128) ++ be 1 (fg d) ++ txPic d ++ txLev d ++ txLk d) := Lib.hid rfl
  have HPut := Lib.hid (fun hp p q ys w wr h hl => putPicture d hv hp p q ys w wr h hl)
  have HLk := Lib.hid (fun w => layerAndKey d hv w)
  have HPic : Hid (txPic d = if 0 ≤ d.pic then (if d.wide then be 2 (d.pic + 32768) else be 1 d.pic) else []) := Lib.hid rfl
  have HLev : Hid (txLev d = if 0 ≤ d.lev then be 1 d.lev else []) := Lib.hid rfl
  have HTk : Hid (txLk d = if 0 ≤ d.lay ∨ 0 ≤ d.key then be 1 (lk d) else []) := Lib.hid rfl
  have HFb : Hid (fb d = d.part + bitV d.nr 32 + bitV d.st 16) := Lib.hid rfl
  have hlev := hv.lev
  have hpl : (txPic d).length ≤ 2 := by unfold txPic; split; split <;> simp [be_length]; simp
  have hll : (txLev d).length ≤ 1 := by unfold txLev; split <;> simp [be_length]
  generalize tx d = T at *
  generalize fb d = B at *
  generalize fg d = G at *
  generalize lk d = L at *
  generalize txPic d = T1 at *
  generalize txLev d = T2 at *
  generalize txLk d = T3 at *
  obtain ⟨nr, st, part, pic, wide, lev, lay, sync, key⟩ := d
  simp only [cells] at *
  have hm := mask.mask3 part
  rw [show part % 8 = part from by omega] at hm
  have hcv : IntKind.u8.wrap part = part := by rw [IntKind.wrap_u8]; omega
  have hb0 := (Blk.new w #[.bool nr, .bool st, .int .i64 part, .int .i64 pic, .bool wide, .int .i64 lev, .int .i64 lay, .bool sync, .int .i64 key] DT).alloc (.cells #[.slice none 0 0] 130)
  have hn0 : New w ((w.alloc (.cells #[.bool nr, .bool st, .int .i64 part, .int .i64 pic, .bool wide, .int .i64 lev, .int .i64 lay, .bool sync, .int .i64 key] DT)).alloc (.cells #[.slice none 0 0] 130)) := ((Turns.refl _ _).alloc _).alloc _
  have hw0 := Wrote.refl (fresh (Blk.new (w.alloc (.cells #[.bool nr, .bool st, .int .i64 part, .int .i64 pic, .bool wide, .int .i64 lev, .int .i64 lay, .bool sync, .int .i64 key] DT)) #[.slice none 0 0] 130))
  rw [World.size_alloc] at hw0
  have H0 := Lib.hid (And.intro hb0 (And.intro hn0 hw0))
  clear hb0 hn0 hw0
  go_enter Tryz.func19, Tryz.ntmps19
  go_wp2_with fail
  generalize (w.alloc (.cells #[.bool nr, .bool st, .int .i64 part, .int .i64 pic, .bool wide, .int .i64 lev, .int .i64 lay, .bool sync, .int .i64 key] DT)).alloc (.cells #[.slice none 0 0] 130) = w0 at *
  obtain ⟨c0, c1, c2, c3, c4, c5, c6, c7, c8⟩ := cells9 H0.out.1
  go_quiet ((go_at_call 58; exact quiet_eq (HB.out _ _ _)))
  obtain ⟨w1, hw1⟩ : ∃ x, x = w0.drewN nq := ⟨_, rfl⟩
  have H1 : Hid (Blk w1 w.heap.size #[.bool nr, .bool st, .int .i64 part, .int .i64 pic, .bool wide, .int .i64 lev, .int .i64 lay, .bool sync, .int .i64 key] DT ∧ Wrote w0 w1 (w.heap.size + 1) none []) := by subst hw1; exact Lib.hid ⟨H0.out.1, Wrote.drewN H0.out.2.2 _⟩
  rw [← hw1]
  clear hw1 c0 c1 c2 c3 c4 c5 c6 c7 c8
  obtain ⟨c0, c1, c2, c3, c4, c5, c6, c7, c8⟩ := cells9 H1.out.1
  go_wp2_with fail
  go_quiet ((go_at_call 58; exact quiet_eq (HB.out _ _ _)))
  obtain ⟨w2, hw2⟩ : ∃ x, x = w1.drewN nq := ⟨_, rfl⟩
  have H2 : Hid (Blk w2 w.heap.size #[.bool nr, .bool st, .int .i64 part, .int .i64 pic, .bool wide, .int .i64 lev, .int .i64 lay, .bool sync, .int .i64 key] DT ∧ Wrote w0 w2 (w.heap.size + 1) none []) := by subst hw2; exact Lib.hid ⟨H1.out.1, Wrote.drewN H1.out.2 _⟩
  rw [← hw2]
  clear hw2 c0 c1 c2 c3 c4 c5 c6 c7 c8 hm
  have hsec : bits .or .u8 (bits .or .u8 (bits .or .u8 (bitV (decide (0 ≤ pic)) 128) (bitV (decide (0 ≤ lev)) 64)) (bitV (decide (0 ≤ lay)) 32)) (bitV (decide (0 ≤ key)) 16) = G := HFG.out
  have hfst : bits .or .u8 (bits .or .u8 part (bitV nr 32)) (bitV st 16) = B := by rw [HFb.out]; exact HFB.out
  rw [hsec, hfst]
  clear hsec hfst hcv
  by_cases hg : G = 0
  · subst hg
    rw [if_pos rfl] at HTX
    go_wp2_with fail
    refine (u8_lit H2.out.2 B hfb.1 (by omega) (by simp) _ rfl).mono ?_
    rintro e w3 ⟨rfl, hw3⟩
    obtain ⟨q3, hb3, ht3, _⟩ := hw3
    have HT := Lib.hid (Go.Proofs.YtcppibjllaablaaGreat.wr.text _ q3 _ w3 hb3)
    have hN3 : New w w3 := H0.out.2.1.trans (ht3.mono (fun k _ h => .inr (by rcases h with h | h; omega; cases h)))
    clear hb3 ht3
    go_wp2_with fail
    refine (HT.out).mono ?_
    rintro e w4 ⟨rfl, rfl⟩
    go_wp2
    go_ret
    rw [HTX.out]
    exact ⟨rfl, hN3⟩
  · have hg1 : (G == 0) = false := by simp [hg]
    rw [if_neg hg] at HTX
    clear hg
    have hor := or128 B (by omega) (by omega)
    go_wp2_with fail
    refine (u8_lit2 H2.out.2 (B + 128) G (by omega) (by omega) (by omega) (by omega) (by simp) _ rfl).mono ?_
    rintro e w3 ⟨rfl, hw3⟩
    rw [List.nil_append] at hw3
    have hd3 : Blk w3 w.heap.size #[.bool nr, .bool st, .int .i64 part, .int .i64 pic, .bool wide, .int .i64 lev, .int .i64 lay, .bool sync, .int .i64 key] DT := (Wrote.turns hw3).blk H0.out.1 (by rintro (h | h); omega; cases h)
    have H3 := Lib.hid (And.intro hd3 hw3)
    clear hd3 hw3 hor
    obtain ⟨A, hA⟩ : ∃ A, A = be 1 (B + 128) ++ be 1 G := ⟨_, rfl⟩
    have hAl : A.length = 2 := by rw [hA]; simp [be_length]
    rw [← hA] at H3 HTX
    clear hA
    obtain ⟨c0, c1, c2, c3, c4, c5, c6, c7, c8⟩ := cells9 H3.out.1
    go_upto_if 50 with fail
    go_cut [] (fun wx => Blk wx w.heap.size #[.bool nr, .bool st, .int .i64 part, .int .i64 pic, .bool wide, .int .i64 lev, .int .i64 lay, .bool sync, .int .i64 key] DT ∧ Wrote w0 wx (w.heap.size + 1) none (A ++ T1))
    case first =>
      by_cases h : 0 ≤ pic
      · have h' : decide (0 ≤ pic) = true := decide_eq_true h
        go_wp2_with fail
        refine (HPut.out h _ _ _ _ _ H3.out.2 (by omega)).mono ?_
        rintro e w4 ⟨rfl, hw4⟩
        go_wp2
        go_meet
        case rel => exact ⟨(Wrote.turns hw4).blk H0.out.1 (by rintro (h | h); omega; cases h), hw4⟩
      · have h' : decide (0 ≤ pic) = false := decide_eq_false h
        rw [if_neg h] at HPic
        go_wp2
        go_meet
        case rel => rw [HPic.out, List.append_nil]; exact H3.out
    case rest =>
      have H4 := Lib.hid hcut
      clear H3 hcut HPic HPut c0 c1 c2 c3 c4 c5 c6 c7 c8
      obtain ⟨A2, hA⟩ : ∃ A', A' = A ++ T1 := ⟨_, rfl⟩
      have hA2 : A2.length ≤ 4 := by rw [hA, List.length_append]; omega
      rw [← hA] at H4 HTX
      clear hA
      obtain ⟨c0, c1, c2, c3, c4, c5, c6, c7, c8⟩ := cells9 H4.out.1
      go_upto_if 55 with fail
      go_cut [] (fun wx => Blk wx w.heap.size #[.bool nr, .bool st, .int .i64 part, .int .i64 pic, .bool wide, .int .i64 lev, .int .i64 lay, .bool sync, .int .i64 key] DT ∧ Wrote w0 wx (w.heap.size + 1) none (A2 ++ T2))
      case first =>
        by_cases h : 0 ≤ lev
        · have h' : decide (0 ≤ lev) = true := decide_eq_true h
          have hcv : IntKind.u8.wrap lev = lev := by rw [IntKind.wrap_u8]; omega
          rw [if_pos h] at HLev
          go_wp2_with fail
          refine (u8_lit H4.out.2 lev h hlev.2 (by omega) _ rfl).mono ?_
          rintro e w4 ⟨rfl, hw4⟩
          rw [← HLev.out] at hw4
          go_wp2
          go_meet
          case rel => exact ⟨(Wrote.turns hw4).blk H0.out.1 (by rintro (h | h); omega; cases h), hw4⟩
        · have h' : decide (0 ≤ lev) = false := decide_eq_false h
          rw [if_neg h] at HLev
          go_wp2
          go_meet
          case rel => rw [HLev.out, List.append_nil]; exact H4.out
      case rest =>
        have H5 := Lib.hid hcut
        clear H4 hcut HLev c0 c1 c2 c3 c4 c5 c6 c7 c8
        obtain ⟨A3, hA⟩ : ∃ A', A' = A2 ++ T2 := ⟨_, rfl⟩
        have hA3 : A3.length ≤ 5 := by rw [hA, List.length_append]; omega
        rw [← hA] at H5 HTX
        clear hA
        obtain ⟨c0, c1, c2, c3, c4, c5, c6, c7, c8⟩ := cells9 H5.out.1
        by_cases h1 : 0 ≤ lay
        · have h1' : decide (0 ≤ lay) = true := decide_eq_true h1
          rw [if_pos (.inl h1)] at HTk
          go_wp2_with fail
          refine (HLk.out _).mono ?_
          rintro e w4 ⟨rfl, hn4⟩
          have hw4 := Wrote.new H5.out.2 hn4
          go_wp2_with fail
          refine (u8_lit hw4 L hlk.1 hlk.2 (by omega) _ rfl).mono ?_
          rintro e w5 ⟨rfl, hw5⟩
          rw [← HTk.out] at hw5
          have HW := Lib.hid hw5
          clear hw4 hw5 hn4
          obtain ⟨q3, hb3, ht3, _⟩ := HW.out
          have HT := Lib.hid (Go.Proofs.YtcppibjllaablaaGreat.wr.text _ q3 _ _ hb3)
          have hN3 := H0.out.2.1.trans (ht3.mono (fun k _ h => .inr (by rcases h with h | h; omega; cases h)))
          have HN := Lib.hid hN3
          clear hb3 ht3 hN3
          go_wp2_with fail
          refine (HT.out).mono ?_
          rintro e w6 ⟨rfl, rfl⟩
          go_wp2
          go_ret
          rw [HTX.out]
          exact ⟨rfl, HN.out⟩
        · have h1' : decide (0 ≤ lay) = false := decide_eq_false h1
          by_cases h2 : 0 ≤ key
          · have h2' : decide (0 ≤ key) = true := decide_eq_true h2
            rw [if_pos (.inr h2)] at HTk
            go_wp2_with fail
            refine (HLk.out _).mono ?_
            rintro e w4 ⟨rfl, hn4⟩
            have hw4 := Wrote.new H5.out.2 hn4
            go_wp2_with fail
            refine (u8_lit hw4 L hlk.1 hlk.2 (by omega) _ rfl).mono ?_
            rintro e w5 ⟨rfl, hw5⟩
            rw [← HTk.out] at hw5
            have HW := Lib.hid hw5
            clear hw4 hw5 hn4
            obtain ⟨q3, hb3, ht3, _⟩ := HW.out
            have HT := Lib.hid (Go.Proofs.YtcppibjllaablaaGreat.wr.text _ q3 _ _ hb3)
            have hN3 := H0.out.2.1.trans (ht3.mono (fun k _ h => .inr (by rcases h with h | h; omega; cases h)))
            have HN := Lib.hid hN3
            clear hb3 ht3 hN3
            go_wp2_with fail
            refine (HT.out).mono ?_
            rintro e w6 ⟨rfl, rfl⟩
            go_wp2
            go_ret
            rw [HTX.out]
            exact ⟨rfl, HN.out⟩
          · have h2' : decide (0 ≤ key) = false := decide_eq_false h2
            rw [if_neg (by omega)] at HTk
            have HW : Hid (Wrote w0 wc (w.heap.size + 1) none (A3 ++ T3)) := by rw [HTk.out, List.append_nil]; exact Lib.hid H5.out.2
            obtain ⟨q3, hb3, ht3, _⟩ := HW.out
            have HT := Lib.hid (Go.Proofs.YtcppibjllaablaaGreat.wr.text _ q3 _ _ hb3)
            have hN3 := H0.out.2.1.trans (ht3.mono (fun k _ h => .inr (by rcases h with h | h; omega; cases h)))
            have HN := Lib.hid hN3
            clear hb3 ht3 hN3
            go_wp2_with fail
            refine (HT.out).mono ?_
            rintro e w6 ⟨rfl, rfl⟩
            go_wp2
            go_ret
            rw [HTX.out]
            exact ⟨rfl, HN.out⟩
end Go.Proofs.YtcppibjllaablaaGreat.vp
