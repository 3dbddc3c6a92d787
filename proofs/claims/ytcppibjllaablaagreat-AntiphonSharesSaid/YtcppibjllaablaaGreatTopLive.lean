/-
  'live' of the statements through the layers (stage 6).
-/
import Derived.Test.YtcppibjllaablaaGreatTopPli
import Derived.Test.YtcppibjllaablaaGreatVpMath
import Derived.Test.YtcppibjllaablaaGreatVpText
import Derived.Test.YtcppibjllaablaaGreatRpText
import Derived.Test.YtcppibjllaablaaGreatRpMath
import Derived.Test.YtcppibjllaablaaGreatRpParse
namespace Go.Proofs.YtcppibjllaablaaGreat.top
open Go.RowKit mem
set_option linter.unusedVariables false

/-- a packet with one payload and nothing else -/
def pk (seq : Int) (pay : ByteArray) : rp.P := ⟨false, 96, seq, 0, 0, [], false, 0, rp.nob, pay, 0⟩
theorem pk_V (seq : Int) (pay : ByteArray) (h0 : 0 ≤ seq) (h1 : seq ≤ 65535) (hp : pay.size ≤ 1400) : rp.V (pk seq pay) :=
  ⟨by simp [pk], ⟨h0, h1⟩, by simp [pk], by simp [pk], by simp [pk], by simp [pk], by simp [pk], by simp [pk], by simp [pk, rp.nob]; rfl, by simp [pk, rp.nob]; rfl, by simp [pk]; omega⟩
theorem pk_len (seq : Int) (pay : ByteArray) (h0 : 0 ≤ seq) (h1 : seq ≤ 65535) (hp : pay.size ≤ 1400) : (rp.tx (pk seq pay)).length ≤ 1500 := by
  have h := rp.tx_length _ (pk_V seq pay h0 h1 hp)
  have hl := (pk_V seq pay h0 h1 hp).len
  simp only [rp.lenI, pk] at h hl
  simp at h hl
  have : (rp.tx (pk seq pay)).length = 12 + pay.size := by
    have h2 : ((rp.tx ⟨false, 96, seq, 0, 0, [], false, 0, rp.nob, pay, 0⟩).length : Int) = 12 + pay.size := by rw [h]
    exact Int.ofNat.inj h2
  omega

/-- a packet's text -/
theorem pk_text (seq : Int) (pay : ByteArray) (h0 : 0 ≤ seq) (h1 : seq ≤ 65535) (hp : pay.size ≤ 1400) (a : Option Addr) (c : Nat) (w : World) :
    Calls Tryz.prog 17 #[.agg #[.bool false, .int .u8 96, .int .u16 seq, .int .u32 0, .int .u32 0, .slice a 0 c, .bool false, .int .u16 0, .string ⟨#[]⟩, .string pay, .int .i64 0]] w fun e w' => e = .returned (.string ⟨(rp.tx (pk seq pay)).toArray⟩) ∧ New w w' :=
  rp.text (pk seq pay) (pk_V seq pay h0 h1 hp) a c w (.inl rfl)
/-- .. and read back -/
theorem pk_parse (seq : Int) (pay : ByteArray) (h0 : 0 ≤ seq) (h1 : seq ≤ 65535) (hp : pay.size ≤ 1400) (w : World) :
    Calls Tryz.prog 16 #[.string ⟨(rp.tx (pk seq pay)).toArray⟩] w fun e w' => ∃ a c, e = .returned (.tuple #[.agg #[.bool false, .int .u8 96, .int .u16 seq, .int .u32 0, .int .u32 0, .slice a 0 c, .bool false, .int .u16 0, .string ⟨#[]⟩, .string pay, .int .i64 0], .int .i64 0]) ∧ New w w' := by
  have hpt := rp.parse_text _ (pk_V seq pay h0 h1 hp)
  have hlen := pk_len seq pay h0 h1 hp
  have h := rp.parse_small ⟨(rp.tx (pk seq pay)).toArray⟩ w (by rw [size_mk]; exact hlen)
  have hd : (⟨(rp.tx (pk seq pay)).toArray⟩ : ByteArray).data.toList = rp.tx (pk seq pay) := rfl
  rw [hd, hpt.1, hpt.2] at h
  refine h.mono ?_
  rintro e w' ⟨v, rfl, hn, ho⟩
  obtain ⟨a, c, rfl⟩ := rp.own_shape ho
  exact ⟨a, c, rfl, hn⟩

theorem plain_tx : vp.tx vp.plain = [0] := by decide +kernel
theorem plain_V : vp.V vp.plain := ⟨by simp [vp.plain], by simp [vp.plain], by simp [vp.plain], by simp [vp.plain], by simp [vp.plain], by simp [vp.plain], by simp [vp.plain], by simp [vp.plain]⟩

set_option maxRecDepth 100000 in
set_option maxHeartbeats 1000000 in
theorem live (w : World) :
    Calls Tryz.prog 6 #[] w fun e w' => e = .returned (.bool true) ∧ New w w' := by
  have HT := Lib.hid (fun w => pk_text 1 ⟨#[120]⟩ (by omega) (by omega) (by decide) none 0 w)
  have HP := Lib.hid (fun w => pk_parse 1 ⟨#[120]⟩ (by omega) (by omega) (by decide) w)
  generalize (⟨(rp.tx (pk 1 ⟨#[120]⟩)).toArray⟩ : ByteArray) = T at *
  have HV := Lib.hid (fun w => vp.text vp.plain plain_V w)
  rw [plain_tx] at HV
  have HB := Lib.hid (fun b w h => text_pli b w h)
  go_enter Tryz.func6, Tryz.ntmps6
  go_wp2_with fail
  have n1 : New w (w.alloc (.cells #[.bool false, .int .u8 96, .int .u16 1, .int .u32 0, .int .u32 0, .slice none 0 0, .bool false, .int .u16 0, .string ⟨#[]⟩, .string ⟨#[120]⟩, .int .i64 0] 75)) := (Turns.refl _ _).alloc _
  refine (HT.out _).mono ?_
  rintro e w2 ⟨rfl, n2⟩
  have n12 : New w w2 := n1.trans (n2.mono (fun _ _ h => h.elim))
  clear n1 n2 HT
  go_wp2_with fail
  refine (HP.out _).mono ?_
  rintro e w3 ⟨a, c, rfl, n3⟩
  have n13 : New w w3 := n12.trans (n3.mono (fun _ _ h => h.elim))
  clear n12 n3 HP
  have hb := Blk.new w3 #[.bool false, .int .u8 96, .int .u16 1, .int .u32 0, .int .u32 0, .slice a 0 c, .bool false, .int .u16 0, .string ⟨#[]⟩, .string ⟨#[120]⟩, .int .i64 0] 75
  have n14 : New w (w3.alloc (.cells #[.bool false, .int .u8 96, .int .u16 1, .int .u32 0, .int .u32 0, .slice a 0 c, .bool false, .int .u16 0, .string ⟨#[]⟩, .string ⟨#[120]⟩, .int .i64 0] 75)) := n13.alloc _
  have H4 := Lib.hid (And.intro hb n14)
  clear hb n14 n13
  go_wp2_with fail
  generalize w3.alloc (.cells #[.bool false, .int .u8 96, .int .u16 1, .int .u32 0, .int .u32 0, .slice a 0 c, .bool false, .int .u16 0, .string ⟨#[]⟩, .string ⟨#[120]⟩, .int .i64 0] 75) = w4 at *
  generalize w3.heap.size = pq at *
  refine (vp.plain_any w4).mono ?_
  rintro e w5 ⟨rfl, n5⟩
  have hb5 := (n5.blk H4.out.1 (fun h => h)).alloc (.cells #[.bool false, .bool false, .int .i64 0, .int .i64 (-1), .bool false, .int .i64 (-1), .int .i64 (-1), .bool false, .int .i64 (-1)] 80)
  have n15 : New w (w5.alloc (.cells #[.bool false, .bool false, .int .i64 0, .int .i64 (-1), .bool false, .int .i64 (-1), .int .i64 (-1), .bool false, .int .i64 (-1)] 80)) := (H4.out.2.trans (n5.mono (fun _ _ h => h.elim))).alloc _
  have q1 := hb5.cell 1
  have q9 := hb5.cell 9
  clear hb5 n5 H4
  go_wp2_with fail
  refine (HV.out _).mono ?_
  rintro e w6 ⟨rfl, n6⟩
  have n16 : New w w6 := n15.trans (n6.mono (fun _ _ h => h.elim))
  have hsz : (⟨([0] : List UInt8).toArray⟩ : ByteArray).size = 1 := rfl
  clear HV n15 n6 q1 q9
  go_wp2_with fail
  have n17 : New w (w6.alloc (.cells #[pliV] 141)) := n16.alloc _
  refine (HB.out w6.heap.size _ (Blk.new w6 #[pliV] _)).mono ?_
  rintro e w7 ⟨rfl, n7⟩
  have n18 : New w w7 := n17.trans (n7.mono (fun _ _ h => h.elim))
  clear n17 n16 n7 HB
  unfold pliL
  go_wp2
  go_ret
  exact ⟨rfl, n18⟩
end Go.Proofs.YtcppibjllaablaaGreat.top
