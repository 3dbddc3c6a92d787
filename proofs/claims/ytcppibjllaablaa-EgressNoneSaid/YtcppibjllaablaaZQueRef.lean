/-
  The reference of layer 18: Size, Drop.
-/
import Derived.Test.YtcppibjllaablaaZKab
set_option linter.unusedVariables false
set_option linter.unusedSimpArgs false
namespace Go.Proofs.Ytcppibjllaablaa.que
open Go.RowKit mem
set_option linter.unusedVariables false

abbrev OT : TypeId := 42
abbrev RQ : TypeId := 26
theorem infoO : (Try.prog.info? OT).map (fun i => (i.zero, i.size, i.bytes)) = some (some (.agg #[.int .i64 0, .int .i64 0, .int .i64 0, .bool false]), 4, 32) := by kernel_rfl

theorem Sub.at' {B : Nat} {w : World} {v : Value} {l : List It} (h : Sub IE B w v l) {k : Nat} {x : It} (hx : l[k]? = some x) :
    ∃ g o c, v = .slice (some ⟨g, o, none⟩) l.length c ∧ g < w.heap.size ∧ w.cell? ⟨g, o + k * 4, none⟩ = some (.int .i64 x.n) ∧ w.cell? ⟨g, o + k * 4 + 1, none⟩ = some (.int .i64 x.size) ∧ w.cell? ⟨g, o + k * 4 + 2, none⟩ = some (.int .i64 x.tick) ∧ w.cell? ⟨g, o + k * 4 + 3, none⟩ = some (.bool x.key) := by
  rcases h with ⟨_, rfl⟩ | h
  · simp at hx
  · obtain ⟨g, o, c, e, _, _, _, hg, hc⟩ := h.cell
    exact ⟨g, o, c, e, hg, hc k x hx 0 _ rfl, hc k x hx 1 _ rfl, hc k x hx 2 _ rfl, hc k x hx 3 _ rfl⟩
theorem Sub.new {B : Nat} {w w' : World} {v : Value} {l : List It} (h : Sub IE B w v l) (n : New w w') : Sub IE B w' v l := h.turns n (fun _ _ h => h)

set_option maxHeartbeats 1000000 in
theorem rsize (v : Value) (l : List It) (w : World) (h : Sub IE 0 w v l) (hl : l.length ≤ 1048576) (hp : pos l) (hs : sumL l ≤ 16777216) :
    Calls Try.prog 16 #[v] w fun e w' => e = .returned (.int .i64 (sumL l)) ∧ New w w' := by
  obtain ⟨ao, c, hv, hc, hcm⟩ := h.form
  have HS := Lib.hid h
  have hlm : l.length ≤ maxLen := by unfold maxLen; omega
  have HP := Lib.hid hp
  subst hv
  clear h hp
  go_enter Try.func16, Try.ntmps16
  go_wp2_with fail
  go_loopw [3, 8] (fun s i wr => ∃ k : Nat, k ≤ l.length ∧ i = .int .i64 k ∧ s = .int .i64 (sumL (l.take k)) ∧ New w wr) (fun _ i _ => l.length - (intOf i).toNat)
  case atStart => exact ⟨0, Nat.zero_le _, rfl, rfl, Turns.refl _ _⟩
  case round =>
    obtain ⟨k, hk, rfl, rfl, hn⟩ := hrel
    have HN := Lib.hid hn
    clear hn
    by_cases hlt : k < l.length
    · obtain ⟨x, hx⟩ : ∃ x, l[k]? = some x := ⟨_, List.getElem?_eq_getElem hlt⟩
      obtain ⟨g, o, c', hv, hg, d0, d1, d2, d3⟩ := Sub.at' (Sub.new HS.out HN.out) hx
      injection hv with hv1 _ hv3
      subst hv1 hv3
      have HT := Lib.hid (sumL_at l k x hx)
      have h0 := sumL_pos _ (HP.out.take k)
      have h1 := sumL_take_le l (k + 1) HP.out
      have hx0 := HP.out x (List.mem_of_getElem? hx)
      rw [HT.out] at h1
      obtain ⟨xn, xs, xt, xk⟩ := x
      dsimp only at *
      have b1 : sumL (l.take k) + xs ≤ 16777216 := by omega
      have HN2 : Hid (New w ((wr.alloc (.cells #[.int .i64 xn, .int .i64 xs, .int .i64 xt, .bool xk] OT)))) := Lib.hid (HN.out.alloc _)
      generalize sumL (l.take k) = s at *
      clear hx h1
      go_wp2_with fail
      go_roundw
      case rel => exact ⟨k + 1, by omega, by go_num, by rw [HT.out], HN2.out⟩
      case measure => simp [intOf]; omega
    · obtain rfl : k = l.length := by omega
      have ht : Hid (l.take l.length = l) := Lib.hid (List.take_length)
      rw [ht.out]
      clear hlt hk
      go_wp2
      go_ret
      exact ⟨rfl, HN.out⟩

/-- what the reference's Drop leaves -/
structure DropPost (w w' : World) (v : Value) (l : List It) (v' u : Value) : Prop where
  left : Lies IE 0 w' v' (l.drop (dropN l))
  gone : Lies IE 0 w' u (l.take (dropN l))
  lb : v'.ownBlock = v.ownBlock
  gb : u.ownBlock = v.ownBlock
  n : New w w'

set_option maxHeartbeats 1000000 in
theorem rdrop (f m : Int) (v : Value) (l : List It) (b : Bool) (w : World) (h : Sub IE 0 w v l) (hl : l.length ≤ 1048576) (hne : l ≠ []) :
    Calls Try.prog 63 #[.agg #[.int .i64 f, .int .i64 m, v, .bool b]] w fun e w' => ∃ v' u, e = .returned (.tuple #[.agg #[.int .i64 f, .int .i64 m, v', .bool (b || decide (dropN l = l.length))], u]) ∧ DropPost w w' v l v' u := by
  have h := h.resolve_left (fun e => hne e.2)
  obtain ⟨g, o, c, hv, hc, hcm, _, hg, _⟩ := id h
  subst hv
  have hd1 := dropN_pos l
  have hdl := dropN_le l hne
  have hlm : l.length ≤ maxLen := by unfold maxLen; omega
  have n2 : New w ((w.alloc (.cells #[.int .i64 f, .int .i64 m, .slice (some ⟨g, o, none⟩) l.length c, .bool b] RQ)).alloc (.cells #[.int .i64 0, .int .i64 0, .slice none 0 0, .bool false] RQ)) := ((Turns.refl _ _).alloc _).alloc _
  have HL2 := Lib.hid (h.turns n2 (fun _ _ h => h))
  have HB2 := Lib.hid ((Blk.new w #[.int .i64 f, .int .i64 m, .slice (some ⟨g, o, none⟩) l.length c, .bool b] RQ).alloc (.cells #[.int .i64 0, .int .i64 0, .slice none 0 0, .bool false] RQ))
  have HR2 := Lib.hid (Blk.new (w.alloc (.cells #[.int .i64 f, .int .i64 m, .slice (some ⟨g, o, none⟩) l.length c, .bool b] RQ)) #[.int .i64 0, .int .i64 0, .slice none 0 0, .bool false] RQ)
  have HN2 := Lib.hid n2
  have HNE := Lib.hid hne
  have HGW := Lib.hid hg
  have HPB : Hid (w.heap.size ≤ w.heap.size ∧ w.heap.size ≤ (w.alloc (.cells #[.int .i64 f, .int .i64 m, .slice (some ⟨g, o, none⟩) l.length c, .bool b] RQ)).heap.size ∧ w.heap.size ≠ (w.alloc (.cells #[.int .i64 f, .int .i64 m, .slice (some ⟨g, o, none⟩) l.length c, .bool b] RQ)).heap.size) := Lib.hid (by simp)
  clear h hne n2
  go_enter Try.func63, Try.ntmps63
  go_upto_region 1 with fail
  refine (show Code.wp _ _ _ _ ((w.alloc (.cells #[.int .i64 f, .int .i64 m, .slice (some ⟨g, o, none⟩) l.length c, .bool b] RQ)).alloc (.cells #[.int .i64 0, .int .i64 0, .slice none 0 0, .bool false] RQ)) from ?_)
  have e1 : (w.alloc (.cells #[.int .i64 f, .int .i64 m, .slice (some ⟨g, o, none⟩) l.length c, .bool b] RQ)).heap.size = w.heap.size + 1 := by simp
  rw [e1] at HPB HR2
  obtain ⟨pr, hpr⟩ : ∃ pr, pr = w.heap.size + 1 := ⟨_, rfl⟩
  rw [← hpr] at HPB HR2
  try rw [← hpr]
  have HWP : Hid (∃ z, z = w.heap.size) := Lib.hid ⟨_, rfl⟩
  generalize ((w.alloc (.cells #[.int .i64 f, .int .i64 m, .slice (some ⟨g, o, none⟩) l.length c, .bool b] RQ)).alloc (.cells #[.int .i64 0, .int .i64 0, .slice none 0 0, .bool false] RQ)) = w2 at *
  obtain ⟨pb, hpb⟩ : ∃ pb, pb = w.heap.size := ⟨_, rfl⟩
  rw [← hpb] at HB2
  rw [show (w.heap.size ≤ w.heap.size ∧ w.heap.size ≤ pr ∧ w.heap.size ≠ pr) = (w.heap.size ≤ pb ∧ w.heap.size ≤ pr ∧ pb ≠ pr) by rw [← hpb]] at HPB
  try rw [← hpb]
  have HPBE := Lib.hid hpb
  have HPRE := Lib.hid hpr
  clear hpb hpr e1 HWP
  have c2 := HB2.out.cell 2
  go_wp2_with fail
  go_loopw [4] (fun i wr => ∃ k : Nat, 1 ≤ k ∧ k ≤ l.length ∧ i = .int .i64 k ∧ wr = w2 ∧ k + runL (l.drop k) = dropN l) (fun i _ => l.length - (intOf i).toNat)
  case atStart => exact ⟨1, Nat.le_refl 1, by omega, rfl, rfl, rfl⟩
  case round =>
    obtain ⟨k, hk1, hk, rfl, hwr, hrun⟩ := hrel
    subst hwr
    have HRUN := Lib.hid hrun
    clear hrun
    by_cases hlt : k < l.length
    · obtain ⟨x, hx⟩ : ∃ x, l[k]? = some x := ⟨_, List.getElem?_eq_getElem (by omega)⟩
      obtain ⟨g', o', c', hv, hg', d0, d1, d2, d3⟩ := Sub.at' (.inr HL2.out) hx
      injection hv with hv1 _ hv3
      injection hv1 with hv1
      injection hv1 with hv1 hv2
      subst hv1 hv2 hv3
      have HAT := Lib.hid (runL_at l k x hx)
      clear hx d0 d1 d2
      obtain ⟨xn, xs, xt, xk⟩ := x
      dsimp only at *
      cases xk with
      | false =>
        go_wp2_with fail
        go_roundw
        case rel => exact ⟨k + 1, by omega, by omega, by go_num, trivial, by have := HRUN.out; rw [HAT.out] at this; simp at this; omega⟩
        case measure => simp [intOf]; omega
      | true =>
        have hkd : k = dropN l := by have := HRUN.out; rw [HAT.out] at this; simpa using this
        have hz : (((l.length - k : Nat) : Int) == 0) = decide (k = l.length) := by
          by_cases e : k = l.length
          · rw [decide_eq_true e, e, Nat.sub_self]; rfl
          · rw [decide_eq_false e]; exact beq_false_of_ne (by omega)
        have hA : (if c = k then some (⟨g, o, none⟩ : Addr) else some ⟨g, o + k * 4, none⟩) = some ⟨g, o + k * 4, none⟩ := if_neg (by omega)
        have HD : Hid (Lies IE 0 wr (.slice (some ⟨g, o + k * 4, none⟩) (l.length - k) (c - k)) (l.drop (dropN l))) := Lib.hid (by rw [← hA, ← hkd]; exact HL2.out.drop k hk)
        have HT : Hid (Lies IE 0 wr (.slice (some ⟨g, o, none⟩) k c) (l.take (dropN l))) := Lib.hid (by rw [← hkd]; exact HL2.out.take k hk)
        have HAO : Hid ((Value.slice (some ⟨g, o + k * 4, none⟩) (l.length - k) (c - k)).ownBlock = some g) := Lib.hid (rfl)
        have hkc : k ≤ c := by omega
        have HKD := Lib.hid hkd
        have f2 := HB2.out.free 2
        have f3 := HB2.out.free 3
        have b0 := HB2.out.cell 0
        have b1 := HB2.out.cell 1
        have b3 := HB2.out.cell 3
        obtain ⟨⟨x0, x1, x2, x3⟩, y0, y1, y2, y3⟩ := four HR2.out
        have HE : Hid (∀ bb : Bool, bb = (b || decide (dropN l = l.length)) → Blk (puts ((wr.setCell ⟨pb, 2, none⟩ (.slice (some ⟨g, o + k * 4, none⟩) (l.length - k) (c - k))).setCell ⟨pb, 3, none⟩ (.bool bb)) pr 0 [.int .i64 f, .int .i64 m, .slice (some ⟨g, o + k * 4, none⟩) (l.length - k) (c - k), .bool bb]) pr #[.int .i64 f, .int .i64 m, .slice (some ⟨g, o + k * 4, none⟩) (l.length - k) (c - k), .bool bb] RQ ∧ DropPost w (puts ((wr.setCell ⟨pb, 2, none⟩ (.slice (some ⟨g, o + k * 4, none⟩) (l.length - k) (c - k))).setCell ⟨pb, 3, none⟩ (.bool bb)) pr 0 [.int .i64 f, .int .i64 m, .slice (some ⟨g, o + k * 4, none⟩) (l.length - k) (c - k), .bool bb]) (.slice (some ⟨g, o, none⟩) l.length c) l (.slice (some ⟨g, o + k * 4, none⟩) (l.length - k) (c - k)) (.slice (some ⟨g, o, none⟩) k c)) := Lib.hid (fun bb hbb => by
          have t1 : Turns (fun i => w.heap.size ≤ i) wr ((wr.setCell ⟨pb, 2, none⟩ (.slice (some ⟨g, o + k * 4, none⟩) (l.length - k) (c - k))).setCell ⟨pb, 3, none⟩ (.bool bb)) := ((Turns.refl _ _).setCell (p := ⟨pb, 2, none⟩) (.inl HPB.out.1) _).setCell (p := ⟨pb, 3, none⟩) (.inl HPB.out.1) _
          have r1 := (HR2.out.setOther (a := ⟨pb, 2, none⟩) HPB.out.2.2 (.slice (some ⟨g, o + k * 4, none⟩) (l.length - k) (c - k))).setOther (a := ⟨pb, 3, none⟩) HPB.out.2.2 (.bool bb)
          have t2 := puts_turns (S := fun i => w.heap.size ≤ i) (p := pr) (.inl HPB.out.2.1) [.int .i64 f, .int .i64 m, .slice (some ⟨g, o + k * 4, none⟩) (l.length - k) (c - k), .bool bb] 0 _ t1
          refine ⟨puts_blk _ _ r1 rfl, ?_, ?_, HAO.out, rfl, HN2.out.trans (t2.mono (fun i _ hi => .inr hi))⟩
          · exact HD.out.turns' t2 (fun g' hg' => by have : g' = g := by { have := HAO.out; rw [this] at hg'; injection hg' with hg'; exact hg'.symm }; subst this; have := HGW.out; omega)
          · exact HT.out.turns' t2 (fun g' hg' => by have : g = g' := (by simpa [Value.ownBlock] using hg'); subst this; have := HGW.out; omega))
        have HPR : Hid (pb ≠ pr) := Lib.hid HPB.out.2.2
        have hpr1 := HPB.out.2.2
        have hpr2 := HPB.out.2.2.symm
        clear hkd 
        cases b
        · go_wp2_with fail
          refine (show bodyPost _ _ _ _ _ (puts ((wr.setCell ⟨pb, 2, none⟩ (.slice (some ⟨g, o + k * 4, none⟩) (l.length - k) (c - k))).setCell ⟨pb, 3, none⟩ (.bool (decide (k = l.length)))) pr 0 [.int .i64 f, .int .i64 m, .slice (some ⟨g, o + k * 4, none⟩) (l.length - k) (c - k), .bool (decide (k = l.length))]) from ?_)
          obtain ⟨hb9, hp9⟩ := HE.out (decide (k = l.length)) (by rw [HKD.out]; rfl)
          generalize (puts ((wr.setCell ⟨pb, 2, none⟩ (.slice (some ⟨g, o + k * 4, none⟩) (l.length - k) (c - k))).setCell ⟨pb, 3, none⟩ (.bool (decide (k = l.length)))) pr 0 [.int .i64 f, .int .i64 m, .slice (some ⟨g, o + k * 4, none⟩) (l.length - k) (c - k), .bool (decide (k = l.length))]) = w9 at *
          obtain ⟨⟨g0, g1, g2, g3⟩, _⟩ := four hb9
          refine bodyPost_ret (v := .tuple #[.agg #[.int .i64 f, .int .i64 m, .slice (some ⟨g, o + k * 4, none⟩) (l.length - k) (c - k), .bool (decide (k = l.length))], .slice (some ⟨g, o, none⟩) k c]) (by simp [results, Try.results63, go_sem, g0, g1, g2, g3]) rfl ?_
          exact ⟨_, _, by rw [HKD.out]; try rfl, hp9⟩
        · go_wp2_with fail
          refine (show bodyPost _ _ _ _ _ (puts ((wr.setCell ⟨pb, 2, none⟩ (.slice (some ⟨g, o + k * 4, none⟩) (l.length - k) (c - k))).setCell ⟨pb, 3, none⟩ (.bool true)) pr 0 [.int .i64 f, .int .i64 m, .slice (some ⟨g, o + k * 4, none⟩) (l.length - k) (c - k), .bool true]) from ?_)
          obtain ⟨hb9, hp9⟩ := HE.out true (rfl)
          generalize (puts ((wr.setCell ⟨pb, 2, none⟩ (.slice (some ⟨g, o + k * 4, none⟩) (l.length - k) (c - k))).setCell ⟨pb, 3, none⟩ (.bool true)) pr 0 [.int .i64 f, .int .i64 m, .slice (some ⟨g, o + k * 4, none⟩) (l.length - k) (c - k), .bool true]) = w9 at *
          obtain ⟨⟨g0, g1, g2, g3⟩, _⟩ := four hb9
          refine bodyPost_ret (v := .tuple #[.agg #[.int .i64 f, .int .i64 m, .slice (some ⟨g, o + k * 4, none⟩) (l.length - k) (c - k), .bool true], .slice (some ⟨g, o, none⟩) k c]) (by simp [results, Try.results63, go_sem, g0, g1, g2, g3]) rfl ?_
          exact ⟨_, _, by rw [HKD.out]; try rfl, hp9⟩
    · obtain rfl : k = l.length := by omega
      have hkd : l.length = dropN l := by have := HRUN.out; rw [runL_end l _ (Nat.le_refl _)] at this; simpa using this
      have hz : (((l.length - l.length : Nat) : Int) == 0) = decide (l.length = l.length) := by
        by_cases e : l.length = l.length
        · rw [decide_eq_true e, e, Nat.sub_self]; rfl
        · rw [decide_eq_false e]; exact beq_false_of_ne (by omega)
      obtain ⟨A, hA⟩ : ∃ A : Option Addr, (if c = l.length then some (⟨g, o, none⟩ : Addr) else some ⟨g, o + l.length * 4, none⟩) = A := ⟨_, rfl⟩
      have HD : Hid (Lies IE 0 wr (.slice A 0 (c - l.length)) (l.drop (dropN l))) := Lib.hid (by rw [← hA, ← hkd]; have h9 := HL2.out.drop l.length hk; rw [Nat.sub_self] at h9; exact h9)
      have HT : Hid (Lies IE 0 wr (.slice (some ⟨g, o, none⟩) l.length c) (l.take (dropN l))) := Lib.hid (by rw [← hkd]; exact HL2.out.take l.length hk)
      have HAO : Hid ((Value.slice A 0 (c - l.length)).ownBlock = some g) := Lib.hid (by rw [← hA]; by_cases e : c = l.length <;> simp [e, Value.ownBlock])
      have hkc : l.length ≤ c := by omega
      have HKD := Lib.hid hkd
      have f2 := HB2.out.free 2
      have f3 := HB2.out.free 3
      have b0 := HB2.out.cell 0
      have b1 := HB2.out.cell 1
      have b3 := HB2.out.cell 3
      obtain ⟨⟨x0, x1, x2, x3⟩, y0, y1, y2, y3⟩ := four HR2.out
      have HE : Hid (∀ bb : Bool, bb = (b || decide (dropN l = l.length)) → Blk (puts ((wr.setCell ⟨pb, 2, none⟩ (.slice A 0 (c - l.length))).setCell ⟨pb, 3, none⟩ (.bool bb)) pr 0 [.int .i64 f, .int .i64 m, .slice A 0 (c - l.length), .bool bb]) pr #[.int .i64 f, .int .i64 m, .slice A 0 (c - l.length), .bool bb] RQ ∧ DropPost w (puts ((wr.setCell ⟨pb, 2, none⟩ (.slice A 0 (c - l.length))).setCell ⟨pb, 3, none⟩ (.bool bb)) pr 0 [.int .i64 f, .int .i64 m, .slice A 0 (c - l.length), .bool bb]) (.slice (some ⟨g, o, none⟩) l.length c) l (.slice A 0 (c - l.length)) (.slice (some ⟨g, o, none⟩) l.length c)) := Lib.hid (fun bb hbb => by
        have t1 : Turns (fun i => w.heap.size ≤ i) wr ((wr.setCell ⟨pb, 2, none⟩ (.slice A 0 (c - l.length))).setCell ⟨pb, 3, none⟩ (.bool bb)) := ((Turns.refl _ _).setCell (p := ⟨pb, 2, none⟩) (.inl HPB.out.1) _).setCell (p := ⟨pb, 3, none⟩) (.inl HPB.out.1) _
        have r1 := (HR2.out.setOther (a := ⟨pb, 2, none⟩) HPB.out.2.2 (.slice A 0 (c - l.length))).setOther (a := ⟨pb, 3, none⟩) HPB.out.2.2 (.bool bb)
        have t2 := puts_turns (S := fun i => w.heap.size ≤ i) (p := pr) (.inl HPB.out.2.1) [.int .i64 f, .int .i64 m, .slice A 0 (c - l.length), .bool bb] 0 _ t1
        refine ⟨puts_blk _ _ r1 rfl, ?_, ?_, HAO.out, rfl, HN2.out.trans (t2.mono (fun i _ hi => .inr hi))⟩
        · exact HD.out.turns' t2 (fun g' hg' => by have : g' = g := by { have := HAO.out; rw [this] at hg'; injection hg' with hg'; exact hg'.symm }; subst this; have := HGW.out; omega)
        · exact HT.out.turns' t2 (fun g' hg' => by have : g = g' := (by simpa [Value.ownBlock] using hg'); subst this; have := HGW.out; omega))
      have HPR : Hid (pb ≠ pr) := Lib.hid HPB.out.2.2
      have hpr1 := HPB.out.2.2
      have hpr2 := HPB.out.2.2.symm
      clear hkd 
      cases b
      · go_wp2_with fail
        refine (show bodyPost _ _ _ _ _ (puts ((wr.setCell ⟨pb, 2, none⟩ (.slice A 0 (c - l.length))).setCell ⟨pb, 3, none⟩ (.bool true)) pr 0 [.int .i64 f, .int .i64 m, .slice A 0 (c - l.length), .bool true]) from ?_)
        obtain ⟨hb9, hp9⟩ := HE.out true (by rw [← HKD.out]; simp)
        generalize (puts ((wr.setCell ⟨pb, 2, none⟩ (.slice A 0 (c - l.length))).setCell ⟨pb, 3, none⟩ (.bool true)) pr 0 [.int .i64 f, .int .i64 m, .slice A 0 (c - l.length), .bool true]) = w9 at *
        obtain ⟨⟨g0, g1, g2, g3⟩, _⟩ := four hb9
        refine bodyPost_ret (v := .tuple #[.agg #[.int .i64 f, .int .i64 m, .slice A 0 (c - l.length), .bool true], .slice (some ⟨g, o, none⟩) l.length c]) (by simp [results, Try.results63, go_sem, g0, g1, g2, g3]) rfl ?_
        exact ⟨_, _, by first | rfl | (rw [← HKD.out]; simp), hp9⟩
      · go_wp2_with fail
        refine (show bodyPost _ _ _ _ _ (puts ((wr.setCell ⟨pb, 2, none⟩ (.slice A 0 (c - l.length))).setCell ⟨pb, 3, none⟩ (.bool true)) pr 0 [.int .i64 f, .int .i64 m, .slice A 0 (c - l.length), .bool true]) from ?_)
        obtain ⟨hb9, hp9⟩ := HE.out true (by simp)
        generalize (puts ((wr.setCell ⟨pb, 2, none⟩ (.slice A 0 (c - l.length))).setCell ⟨pb, 3, none⟩ (.bool true)) pr 0 [.int .i64 f, .int .i64 m, .slice A 0 (c - l.length), .bool true]) = w9 at *
        obtain ⟨⟨g0, g1, g2, g3⟩, _⟩ := four hb9
        refine bodyPost_ret (v := .tuple #[.agg #[.int .i64 f, .int .i64 m, .slice A 0 (c - l.length), .bool true], .slice (some ⟨g, o, none⟩) l.length c]) (by simp [results, Try.results63, go_sem, g0, g1, g2, g3]) rfl ?_
        exact ⟨_, _, by first | rfl | (rw [← HKD.out]; simp), hp9⟩
end Go.Proofs.Ytcppibjllaablaa.que
