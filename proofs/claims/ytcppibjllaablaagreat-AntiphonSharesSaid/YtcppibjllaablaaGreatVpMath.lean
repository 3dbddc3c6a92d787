/-
  vp8: what is written is read back; a beginning is not; what is read may be. No program.
-/
import Derived.Test.YtcppibjllaablaaGreatVpText
namespace Go.Proofs.YtcppibjllaablaaGreat.vp
open Go.RowKit mem rd wr oref sq
set_option linter.unusedVariables false

theorem be1_bd (x : Int) (h0 : 0 ≤ x) (h1 : x ≤ 255) (r : List UInt8) (e : Int) : vn 1 (be 1 x ++ r, e) = x := vn_be 1 x h0 (by omega) r e
theorem be2_first (x : Int) (h0 : 0 ≤ x) (h1 : x ≤ 65535) : be 2 x = be 1 (x / 256) ++ be 1 (x % 256) := by
  have hb : ∀ a b : Int, a % 256 = b % 256 → Go.Proofs.YtcppibjllaablaaGreat.wr.byteOf a = Go.Proofs.YtcppibjllaablaaGreat.wr.byteOf b := fun a b h => by unfold Go.Proofs.YtcppibjllaablaaGreat.wr.byteOf; rw [h]
  simp only [be, List.cons_append, List.nil_append]
  rw [hb (x / 256 ^ 1) (x / 256 / 256 ^ 0) (by omega), hb (x / 256 ^ 0) (x % 256 / 256 ^ 0) (by omega)]

theorem fg_bits : ∀ a b c e : Bool, (decide (128 ≤ bitV a 128 + bitV b 64 + bitV c 32 + bitV e 16) = a) ∧ (decide ((bitV a 128 + bitV b 64 + bitV c 32 + bitV e 16) / 64 % 2 = 1) = b)
    ∧ (decide ((bitV a 128 + bitV b 64 + bitV c 32 + bitV e 16) / 32 % 2 = 1) = c) ∧ (decide ((bitV a 128 + bitV b 64 + bitV c 32 + bitV e 16) / 16 % 2 = 1) = e)
    ∧ (decide ((bitV a 128 + bitV b 64 + bitV c 32 + bitV e 16) / 16 % 4 = 0) = (!c && !e)) ∧ (decide (bitV a 128 + bitV b 64 + bitV c 32 + bitV e 16 = 0) = (!a && !b && !c && !e)) := by decide +kernel
theorem fg_pic (d : D) : 128 ≤ fg d ↔ 0 ≤ d.pic := by
  have := (fg_bits (decide (0 ≤ d.pic)) (decide (0 ≤ d.lev)) (decide (0 ≤ d.lay)) (decide (0 ≤ d.key))).1
  exact decide_eq_decide.1 this
theorem fg_lev (d : D) : fg d / 64 % 2 = 1 ↔ 0 ≤ d.lev := by
  have := (fg_bits (decide (0 ≤ d.pic)) (decide (0 ≤ d.lev)) (decide (0 ≤ d.lay)) (decide (0 ≤ d.key))).2.1
  exact decide_eq_decide.1 this
theorem fg_lay (d : D) : fg d / 32 % 2 = 1 ↔ 0 ≤ d.lay := by
  have := (fg_bits (decide (0 ≤ d.pic)) (decide (0 ≤ d.lev)) (decide (0 ≤ d.lay)) (decide (0 ≤ d.key))).2.2.1
  exact decide_eq_decide.1 this
theorem fg_key (d : D) : fg d / 16 % 2 = 1 ↔ 0 ≤ d.key := by
  have := (fg_bits (decide (0 ≤ d.pic)) (decide (0 ≤ d.lev)) (decide (0 ≤ d.lay)) (decide (0 ≤ d.key))).2.2.2.1
  exact decide_eq_decide.1 this
theorem fg_no (d : D) : fg d / 16 % 4 = 0 ↔ ¬ (0 ≤ d.lay ∨ 0 ≤ d.key) := by
  have := (fg_bits (decide (0 ≤ d.pic)) (decide (0 ≤ d.lev)) (decide (0 ≤ d.lay)) (decide (0 ≤ d.key))).2.2.2.2.1
  have e : (!decide (0 ≤ d.lay) && !decide (0 ≤ d.key)) = decide (¬ (0 ≤ d.lay ∨ 0 ≤ d.key)) := by
    by_cases h1 : 0 ≤ d.lay <;> by_cases h2 : 0 ≤ d.key <;> simp [h1, h2]
  rw [e] at this
  exact decide_eq_decide.1 this
theorem fg_zero (d : D) (h : fg d = 0) : d.pic < 0 ∧ d.lev < 0 ∧ d.lay < 0 ∧ d.key < 0 := by
  have h1 := fg_pic d
  have h2 := fg_lev d
  have h3 := fg_lay d
  have h4 := fg_key d
  rw [h] at h1 h2 h3 h4
  omega

theorem st_tk1 (d : D) (hv : V d) (x : D) (hx : x.pic = -1) (hx2 : x.wide = false) (X : List UInt8) : tk1S (fg d) (txPic d ++ X, 0) = (X, 0) ∧ tk1D (fg d) x (txPic d ++ X, 0) = { x with pic := d.pic, wide := d.wide } := by
  unfold tk1S tk1D txPic
  have hp := hv.pic
  by_cases h : 0 ≤ d.pic
  · rw [if_pos ((fg_pic d).2 h), if_pos ((fg_pic d).2 h), if_pos h]
    by_cases hw : d.wide = true
    · rw [if_pos hw]
      have e2 := be2_first (d.pic + 32768) (by omega) (by omega)
      have hv1 : vn 1 (be 2 (d.pic + 32768) ++ X, 0) = (d.pic + 32768) / 256 := by rw [e2, List.append_assoc]; exact be1_bd _ (by omega) (by omega) _ _
      have hn1 : nx 1 (be 2 (d.pic + 32768) ++ X, 0) = (be 1 ((d.pic + 32768) % 256) ++ X, 0) := by rw [e2, List.append_assoc]; exact nx_be 1 _ _ _
      unfold picS picV picW
      rw [hv1, hn1, be1_bd _ (by omega) (by omega), nx_be, if_pos (by omega), if_pos (by omega), b128_is _ (by omega) (by omega), decide_eq_true (by omega), hw]
      exact ⟨rfl, by congr 1; omega⟩
    · rw [if_neg hw]
      have hn := hv.narrow (by simpa using hw)
      unfold picS picV picW
      rw [be1_bd _ (by omega) (by omega), nx_be, if_neg (by omega), if_neg (by omega), b128_is _ (by omega) (by omega), decide_eq_false (by omega)]
      refine ⟨rfl, ?_⟩
      rw [show d.wide = false from by simpa using hw]
  · rw [if_neg (fun h' => h ((fg_pic d).1 h')), if_neg (fun h' => h ((fg_pic d).1 h')), if_neg h]
    refine ⟨rfl, ?_⟩
    have hw : d.wide = false := by
      cases hw : d.wide
      · rfl
      · exact absurd (hv.wide hw) h
    rw [hw, show d.pic = -1 from by omega, ← hx, ← hx2]

theorem st_tk2 (d : D) (hv : V d) (x : D) (hx : x.lev = -1) (X : List UInt8) : tk2S (fg d) (txLev d ++ X, 0) = (X, 0) ∧ tk2D (fg d) x (txLev d ++ X, 0) = { x with lev := d.lev } := by
  unfold tk2S tk2D txLev
  have hp := hv.lev
  by_cases h : 0 ≤ d.lev
  · rw [if_pos ((fg_lev d).2 h), if_pos ((fg_lev d).2 h), if_pos h, be1_bd _ h (by omega), nx_be]
    exact ⟨rfl, rfl⟩
  · rw [if_neg (fun h' => h ((fg_lev d).1 h')), if_neg (fun h' => h ((fg_lev d).1 h')), if_neg h]
    refine ⟨rfl, ?_⟩
    rw [show d.lev = -1 from by omega, ← hx]

theorem st_tkL (d : D) (hv : V d) (x : D) (hx : x.lay = -1) (hx2 : x.sync = false) (hx3 : x.key = -1) (X : List UInt8) :
    tkLS (fg d) (txLk d ++ X, 0) = (X, 0) ∧ tkLD (fg d) x (txLk d ++ X, 0) = { x with lay := d.lay, sync := d.sync, key := d.key } := by
  unfold tkLS tkLD txLk
  have hp := hv.lay
  have hk := hv.key
  have hb := lk_bd d hv
  have hs : d.lay < 0 → d.sync = false := by
    intro h
    cases hs : d.sync
    · rfl
    · have := hv.sync hs; omega
  by_cases h : 0 ≤ d.lay ∨ 0 ≤ d.key
  · rw [if_neg (fun h' => (fg_no d).1 h' h), if_neg (fun h' => (fg_no d).1 h' h), if_pos h, be1_bd _ hb.1 hb.2, nx_be]
    refine ⟨rfl, ?_⟩
    unfold tk4D tk3D
    have b32l := b32_is (lk d) hb.1 hb.2
    by_cases h1 : 0 ≤ d.lay
    · rw [if_pos ((fg_lay d).2 h1), b32l]
      by_cases h2 : 0 ≤ d.key
      · rw [if_pos ((fg_key d).2 h2)]
        have e : lk d = d.lay * 64 + bitV d.sync 32 + d.key := by unfold lk; rw [if_pos h1, if_pos h2]
        rw [e]
        cases hsy : d.sync
        · have : decide ((d.lay * 64 + bitV false 32 + d.key) / 32 % 2 = 1) = false := decide_eq_false (by simp [bitV]; omega)
          rw [this]
          simp only [bitV, Bool.false_eq_true, if_false]
          congr 1 <;> omega
        · have : decide ((d.lay * 64 + bitV true 32 + d.key) / 32 % 2 = 1) = true := decide_eq_true (by simp [bitV]; omega)
          rw [this]
          simp only [bitV, if_true]
          congr 1 <;> omega
      · rw [if_neg (fun h' => h2 ((fg_key d).1 h'))]
        have e : lk d = d.lay * 64 + bitV d.sync 32 + 0 := by unfold lk; rw [if_pos h1, if_neg h2]
        rw [e]
        cases hsy : d.sync
        · have : decide ((d.lay * 64 + bitV false 32 + 0) / 32 % 2 = 1) = false := decide_eq_false (by simp [bitV]; omega)
          rw [this]
          simp only [bitV, Bool.false_eq_true, if_false]
          rw [show d.key = -1 from by omega, ← hx3]
          congr 1; omega
        · have : decide ((d.lay * 64 + bitV true 32 + 0) / 32 % 2 = 1) = true := decide_eq_true (by simp [bitV]; omega)
          rw [this]
          simp only [bitV, if_true]
          rw [show d.key = -1 from by omega, ← hx3]
          congr 1; omega
    · have h2 : 0 ≤ d.key := by omega
      rw [if_neg (fun h' => h1 ((fg_lay d).1 h')), if_pos ((fg_key d).2 h2)]
      have e : lk d = 0 + d.key := by unfold lk; rw [if_neg h1, if_pos h2]
      rw [e, hs (by omega), show d.lay = -1 from by omega, ← hx, ← hx2]
      congr 1; omega
  · rw [if_pos ((fg_no d).2 h), if_pos ((fg_no d).2 h), if_neg h]
    refine ⟨rfl, ?_⟩
    rw [show d.lay = x.lay from by omega, show d.key = x.key from by omega, hs (by omega), ← hx2]

theorem d0_fb (d : D) (hv : V d) (c : Int) (hc : c = 0 ∨ c = 128) : d0 (fb d + c) = { plain with nr := d.nr, st := d.st, part := d.part } := by
  have hp := hv.part
  have hb := fb_bd d hv
  unfold d0
  rw [b32_is _ (by omega) (by omega), b16_is _ (by omega) (by omega)]
  unfold fb
  rcases hc with rfl | rfl
  all_goals
    cases hn : d.nr <;> cases hs : d.st
    all_goals
      simp only [bitV, Bool.false_eq_true, if_false, if_true]
      congr 1
      · first | exact decide_eq_true (by omega) | exact decide_eq_false (by omega)
      · first | exact decide_eq_true (by omega) | exact decide_eq_false (by omega)
      · omega

/-- what is written is read back -/
theorem parse_text (d : D) (hv : V d) (r : List UInt8) : pS (tx d ++ r, 0) = (r, 0) ∧ pD (tx d ++ r, 0) = d := by
  have hb := fb_bd d hv
  have hg := fg_bd d
  unfold tx
  by_cases h0 : fg d = 0
  · rw [if_pos h0]
    obtain ⟨h1, h2, h3, h4⟩ := fg_zero d h0
    unfold pS pD
    rw [be1_bd _ (by omega) (by omega), nx_be, if_neg (by omega), if_neg (by omega)]
    have e0 := d0_fb d hv 0 (.inl rfl)
    rw [Int.add_zero] at e0
    rw [e0]
    refine ⟨rfl, ?_⟩
    have hw : d.wide = false := by
      cases hw : d.wide
      · rfl
      · have := hv.wide hw; omega
    have hs : d.sync = false := by
      cases hs : d.sync
      · rfl
      · have := hv.sync hs; omega
    have hp := hv.pic
    have hl := hv.lev
    have hy := hv.lay
    have hk := hv.key
    obtain ⟨nr, st, part, pic, wide, lev, lay, sync, key⟩ := d
    simp only at *
    subst hw hs
    unfold plain
    simp only [D.mk.injEq, true_and]
    omega
  · rw [if_neg h0]
    simp only [List.append_assoc]
    unfold pS pD
    rw [be1_bd _ (by omega) (by omega), nx_be, be1_bd _ hg.1 (by omega), nx_be, if_pos (by omega), if_pos (by omega), d0_fb d hv 128 (.inr rfl)]
    unfold tkS tkD
    have s1 := st_tk1 d hv { plain with nr := d.nr, st := d.st, part := d.part } rfl rfl (txLev d ++ (txLk d ++ r))
    rw [s1.1, s1.2]
    have s2 := st_tk2 d hv { ({ plain with nr := d.nr, st := d.st, part := d.part } : D) with pic := d.pic, wide := d.wide } rfl (txLk d ++ r)
    rw [s2.1, s2.2]
    have s3 := st_tkL d hv { ({ ({ plain with nr := d.nr, st := d.st, part := d.part } : D) with pic := d.pic, wide := d.wide } : D) with lev := d.lev } rfl rfl rfl r
    rw [s3.1, s3.2]
    exact ⟨rfl, rfl⟩

/-! ### a beginning of a descriptor -/
theorem picS_one {s : St} (h : s.2 = 1) : (picS s).2 = 1 := by
  unfold picS; split
  · exact nx_one _ (nx_one _ h)
  · exact nx_one _ h
theorem tk1S_one (f : Int) {s : St} (h : s.2 = 1) : (tk1S f s).2 = 1 := by unfold tk1S; split; exact picS_one h; exact h
theorem tk2S_one (f : Int) {s : St} (h : s.2 = 1) : (tk2S f s).2 = 1 := by unfold tk2S; split; exact nx_one _ h; exact h
theorem tkLS_one (f : Int) {s : St} (h : s.2 = 1) : (tkLS f s).2 = 1 := by unfold tkLS; split; exact h; exact nx_one _ h
theorem tkS_one (f : Int) {s : St} (h : s.2 = 1) : (tkS f s).2 = 1 := tkLS_one f (tk2S_one f (tk1S_one f h))
theorem short_pic {s s' : St} (h : Short s s') : (picS s').2 = 1 ∨ Short (picS s) (picS s') := by
  rcases short_nx 1 h with h1 | ⟨h1, _, h2⟩
  · left
    unfold picS; split
    · exact nx_one _ h1
    · exact h1
  · unfold picS
    rw [h1]
    split
    · rcases short_nx 1 h2 with h3 | ⟨_, _, h3⟩
      · exact .inl h3
      · exact .inr h3
    · exact .inr h2
theorem short_tk1 (f : Int) {s s' : St} (h : Short s s') : (tk1S f s').2 = 1 ∨ Short (tk1S f s) (tk1S f s') := by
  unfold tk1S; split
  · exact short_pic h
  · exact .inr h
theorem short_tk2 (f : Int) {s s' : St} (h : Short s s') : (tk2S f s').2 = 1 ∨ Short (tk2S f s) (tk2S f s') := by
  unfold tk2S; split
  · rcases short_nx 1 h with h3 | ⟨_, _, h3⟩
    · exact .inl h3
    · exact .inr h3
  · exact .inr h
theorem short_tkL (f : Int) {s s' : St} (h : Short s s') : (tkLS f s').2 = 1 ∨ Short (tkLS f s) (tkLS f s') := by
  unfold tkLS; split
  · exact .inr h
  · rcases short_nx 1 h with h3 | ⟨_, _, h3⟩
    · exact .inl h3
    · exact .inr h3
theorem short_tk (f : Int) {s s' : St} (h : Short s s') : (tkS f s').2 = 1 ∨ Short (tkS f s) (tkS f s') := by
  unfold tkS
  rcases short_tk1 f h with h1 | h1
  · exact .inl (tkLS_one f (tk2S_one f h1))
  · rcases short_tk2 f h1 with h2 | h2
    · exact .inl (tkLS_one f h2)
    · exact short_tkL f h2
theorem short_p {s s' : St} (h : Short s s') : (pS s').2 = 1 ∨ Short (pS s) (pS s') := by
  rcases short_nx 1 h with h1 | ⟨h1, _, h2⟩
  · left
    unfold pS; split
    · exact tkS_one _ (nx_one _ h1)
    · exact h1
  · unfold pS
    rw [h1]
    split
    · rcases short_nx 1 h2 with h3 | ⟨h3, _, h4⟩
      · exact .inl (tkS_one _ h3)
      · rw [h3]; exact short_tk _ h4
    · exact .inr h2
/-- a beginning is none -/
theorem parse_cut (d : D) (hv : V d) (n : Nat) (hn : n < (tx d).length) : (pS ((tx d).take n, 0)).2 = 1 := by
  have hp := (parse_text d hv []).1
  rw [List.append_nil] at hp
  rcases short_p (s := (tx d, 0)) (s' := ((tx d).take n, 0)) ⟨rfl, rfl, (tx d).drop n, by intro h; have := congrArg List.length h; simp at this; omega, (List.take_append_drop _ _).symm⟩ with h | ⟨_, _, t, ht, h⟩
  · exact h
  · rw [hp] at h
    simp at h
    exact absurd h.2 ht

/-! ### what is read -/
theorem d0_V (a : Int) (h0 : 0 ≤ a) (h1 : a ≤ 255) : V (d0 a) := by
  unfold d0 plain
  exact ⟨by simp only; omega, by simp only; omega, by simp only; omega, by simp only; omega, by simp only; omega, by simp, by simp, by simp⟩
theorem picV_bd (s : St) : 0 ≤ picV s ∧ picV s ≤ 32767 ∧ (picW s = false → picV s ≤ 127) := by
  unfold picV picW
  have h1 := vn_bd1 s
  have h2 := vn_bd1 (nx 1 s)
  rw [b128_is _ h1.1 h1.2]
  split
  · refine ⟨by omega, by omega, ?_⟩
    intro h; rw [decide_eq_false_iff_not] at h; omega
  · exact ⟨by omega, by omega, fun _ => by omega⟩
theorem tk1_V (f : Int) (d : D) (s : St) (hv : V d) : V (tk1D f d s) := by
  unfold tk1D; split
  · have := picV_bd s
    exact ⟨hv.part, by simp only; omega, hv.lev, hv.lay, hv.key, fun _ => by simp only; omega, this.2.2, hv.sync⟩
  · exact hv
theorem tk2_V (f : Int) (d : D) (s : St) (hv : V d) : V (tk2D f d s) := by
  unfold tk2D; split
  · have := vn_bd1 s
    exact ⟨hv.part, hv.pic, by simp only; omega, hv.lay, hv.key, hv.wide, hv.narrow, hv.sync⟩
  · exact hv
theorem tkL_V (f : Int) (d : D) (s : St) (hv : V d) : V (tkLD f d s) := by
  unfold tkLD; split
  · exact hv
  · have hb := vn_bd1 s
    generalize vn 1 s = b at *
    have h3 : V (tk3D f b d) := by
      unfold tk3D; split
      · exact ⟨hv.part, hv.pic, hv.lev, by simp only; omega, hv.key, hv.wide, hv.narrow, fun _ => by simp only; omega⟩
      · exact hv
    unfold tk4D; split
    · exact ⟨h3.part, h3.pic, h3.lev, h3.lay, by simp only; omega, h3.wide, h3.narrow, h3.sync⟩
    · exact h3
theorem p_V (s : St) : V (pD s) := by
  have h1 := vn_bd1 s
  unfold pD; split
  · exact tkL_V _ _ _ (tk2_V _ _ _ (tk1_V _ _ _ (d0_V _ h1.1 h1.2)))
  · exact d0_V _ h1.1 h1.2

/-! ### how long it is -/
theorem tx_len (d : D) : (tx d).length = if fg d = 0 then 1 else 2 + (txPic d).length + (txLev d).length + (txLk d).length := by
  unfold tx; split
  · simp [be_length]
  · simp only [List.length_append, be_length]
theorem len_pic (s : St) (h : (picS s).2 = 0) : (picS s).1.length + (if picW s then 2 else 1) = s.1.length := by
  have hb := vn_bd1 s
  unfold picS picW at *
  rw [b128_is _ hb.1 hb.2]
  by_cases h1 : 128 ≤ vn 1 s
  · rw [if_pos h1] at h ⊢
    rw [decide_eq_true h1]
    have a := nx_count h
    have b := nx_count (nx_no h)
    simp only [if_true]
    omega
  · rw [if_neg h1] at h ⊢
    rw [decide_eq_false h1]
    have a := nx_count h
    simp only [Bool.false_eq_true, if_false]
    omega
theorem picS_no {s : St} (h : (picS s).2 = 0) : s.2 = 0 := by
  unfold picS at h; split at h
  · exact nx_no (nx_no h)
  · exact nx_no h
theorem tk1_no (f : Int) {s : St} (h : (tk1S f s).2 = 0) : s.2 = 0 := by unfold tk1S at h; split at h; exact picS_no h; exact h
theorem tk2_no (f : Int) {s : St} (h : (tk2S f s).2 = 0) : s.2 = 0 := by unfold tk2S at h; split at h; exact nx_no h; exact h
theorem tkL_no (f : Int) {s : St} (h : (tkLS f s).2 = 0) : s.2 = 0 := by unfold tkLS at h; split at h; exact h; exact nx_no h

theorem len_tk (f : Int) (hf0 : 0 ≤ f) (hf1 : f ≤ 255) (d : D) (hp : d.pic < 0) (hl : d.lev < 0) (hy : d.lay < 0) (hk : d.key < 0) (s : St) (h : (tkS f s).2 = 0) :
    (tkS f s).1.length + ((txPic (tkD f d s)).length + (txLev (tkD f d s)).length + (txLk (tkD f d s)).length) ≤ s.1.length := by
  unfold tkS at *
  have n2 := tkL_no f h
  have n1 := tk2_no f n2
  -- the picture
  have e1 : (txPic (tkD f d s)).length + (tk1S f s).1.length ≤ s.1.length := by
    have : txPic (tkD f d s) = txPic (tk1D f d s) := by
      unfold tkD tkLD tk4D tk3D tk2D
      repeat (first | rfl | split)
    rw [this]
    unfold tk1D tk1S at *
    split
    · rename_i h1
      rw [if_pos h1] at n1
      have := len_pic s n1
      unfold txPic
      simp only
      split
      · cases hw : picW s
        · rw [hw] at this; simp [be_length] at this ⊢; omega
        · rw [hw] at this; simp [be_length] at this ⊢; omega
      · simp; split at this <;> omega
    · unfold txPic; rw [if_neg (by omega)]; simp
  have e2 : (txLev (tkD f d s)).length + (tk2S f (tk1S f s)).1.length ≤ (tk1S f s).1.length := by
    have hl1 : (tk1D f d s).lev < 0 := by unfold tk1D; split <;> exact hl
    have : txLev (tkD f d s) = txLev (tk2D f (tk1D f d s) (tk1S f s)) := by
      unfold tkD tkLD tk4D tk3D
      repeat (first | rfl | split)
    rw [this]
    unfold tk2D tk2S at *
    split
    · rename_i h1
      rw [if_pos h1] at n2
      have := nx_count n2
      unfold txLev
      simp only
      split
      · simp [be_length]; omega
      · simp; omega
    · unfold txLev; rw [if_neg (by omega)]; simp
  have e3 : (txLk (tkD f d s)).length + (tkLS f (tk2S f (tk1S f s))).1.length ≤ (tk2S f (tk1S f s)).1.length := by
    have hy1 : (tk2D f (tk1D f d s) (tk1S f s)).lay < 0 := by unfold tk2D tk1D; split <;> split <;> exact hy
    have hk1 : (tk2D f (tk1D f d s) (tk1S f s)).key < 0 := by unfold tk2D tk1D; split <;> split <;> exact hk
    unfold tkD tkLD tkLS at *
    split
    · unfold txLk; rw [if_neg (by omega)]; simp
    · rename_i h1
      rw [if_neg h1] at h
      have := nx_count h
      unfold txLk
      split
      · simp [be_length]; omega
      · simp; omega
  omega

theorem len_p (s : St) (h : (pS s).2 = 0) : (tx (pD s)).length + (pS s).1.length ≤ s.1.length := by
  have hb := vn_bd1 s
  have hf := vn_bd1 (nx 1 s)
  rw [tx_len]
  unfold pS pD at *
  split
  · rename_i h1
    rw [if_pos h1] at h
    have n3 := tk1_no _ (tk2_no _ (tkL_no _ h))
    have c2 := nx_count n3
    have c1 := nx_count (nx_no n3)
    have := len_tk (vn 1 (nx 1 s)) hf.1 hf.2 (d0 (vn 1 s)) (by show (-1 : Int) < 0; omega) (by show (-1 : Int) < 0; omega) (by show (-1 : Int) < 0; omega) (by show (-1 : Int) < 0; omega) _ h
    split <;> omega
  · rename_i h1
    rw [if_neg h1] at h
    have c1 := nx_count h
    have : fg (d0 (vn 1 s)) = 0 := by unfold fg d0 plain; simp [bitV]
    rw [if_pos this]
    omega
end Go.Proofs.YtcppibjllaablaaGreat.vp
