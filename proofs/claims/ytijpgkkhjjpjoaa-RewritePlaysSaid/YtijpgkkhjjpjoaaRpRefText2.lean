/-
  rtp: the reference's Text.
-/
import Derived.Test.YtijpgkkhjjpjoaaRpRefHead
namespace Go.Proofs.Ytijpgkkhjjpjoaa.rp
open Go.RowKit mem rd wr oref sq
set_option linter.unusedVariables false

theorem flat4' (l : List Int) : (l.flatMap (be 4)).length = 4 * l.length := by
  induction l with
  | nil => rfl
  | cons x l ih => rw [List.flatMap_cons, List.length_append, ih, be_length, List.length_cons]; omega
theorem txE_len (p : P) : (txE p).length = if p.ext then 4 + p.data.size else 0 := by
  unfold txE
  split
  · simp only [List.length_append, be_length, Go.Proofs.Ytijpgkkhjjpjoaa.wr.size_list]
  · rfl
theorem tx1_len (p : P) : (tx1 p).length = 12 + 4 * p.cs.length := by
  unfold tx1
  simp only [List.length_append, be_length, flat4']
theorem txT_len (p : P) (hp : 0 ≤ p.pad) : ((tx p).length : Int) = lenI p := by
  have e2 : p.pay.data.toList.length = p.pay.size := Go.Proofs.Ytijpgkkhjjpjoaa.wr.size_list p.pay
  have l1 : (txP p).length = p.pad.toNat := by
    unfold txP
    split
    · simp only [List.length_append, List.length_replicate, be_length]; omega
    · simp; omega
  unfold tx
  simp only [List.length_append, tx1_len, txE_len, l1, e2]
  unfold lenI
  split <;> omega

set_option maxRecDepth 100000 in
set_option maxHeartbeats 8000000 in
theorem rtext (p : P) (ht : T p) (a : Option Addr) (c : Nat) (w : World) (hr : Row w a p.cs) :
    Calls Try.prog 40 #[.agg (pc p (.slice a p.cs.length c))] w fun e w' => e = .returned (.string ⟨(tx p).toArray⟩) ∧ New w w' := by
  have hpad := ht.pad
  have hda := ht.data
  have hpy := ht.pay
  have hcn := ht.csn
  have RH := Lib.hid (fun w h => rhead p ht a c w h)
  have hl1 : (tx1 p ++ txE p).length ≤ 1600 := by
    rw [List.length_append, tx1_len, txE_len]
    split <;> omega
  have HTX : Hid (tx p = (tx1 p ++ txE p) ++ p.pay.data.toList ++ (if 0 < p.pad then List.replicate (p.pad - 1).toNat 0 ++ be 1 p.pad else [])) := Lib.hid rfl
  have HROW := Lib.hid hr
  clear hr ht
  generalize tx1 p ++ txE p = H at *
  generalize tx p = TX at *
  obtain ⟨mrk, typ, seq, time, ssrc, cs, ext, prof, data, pay, pad⟩ := p
  obtain ⟨Q, rfl⟩ : ∃ l : List UInt8, pay = ⟨l.toArray⟩ := ⟨_, (eta_mk pay).symm⟩
  simp only [pc, size_mk] at *
  generalize hn : cs.length = n at *
  clear hn
  have RN := Lib.hid (fun w => rnum1 pad (by omega) (by omega) w)
  have l1 := be_length 1 pad
  generalize be 1 pad = L at *
  have HE := Lib.hid (held_of (((Turns.refl (fun _ => False) w).alloc (.cells #[.bool mrk, .int .u8 typ, .int .u16 seq, .int .u32 time, .int .u32 ssrc, .slice a n c, .bool ext, .int .u16 prof, .string data, .string ⟨Q.toArray⟩, .int .i64 pad] QR))) (Blk.new w #[.bool mrk, .int .u8 typ, .int .u16 seq, .int .u32 time, .int .u32 ssrc, .slice a n c, .bool ext, .int .u16 prof, .string data, .string ⟨Q.toArray⟩, .int .i64 pad] QR))
  go_enter Try.func40, Try.ntmps40
  go_upto_region 1 with fail
  generalize w.alloc (.cells #[.bool mrk, .int .u8 typ, .int .u16 seq, .int .u32 time, .int .u32 ssrc, .slice a n c, .bool ext, .int .u16 prof, .string data, .string ⟨Q.toArray⟩, .int .i64 pad] QR) = w1 at *
  obtain ⟨pd, hpd⟩ : ∃ x, x = w.heap.size := ⟨_, rfl⟩
  rw [← hpd] at HE ⊢
  clear hpd
  have HROW1 := Lib.hid (fun W (h : New w W) => Row.new HROW.out h)
  go_cut [3] (fun v wx => v = .string ⟨(H ++ Q).toArray⟩ ∧ Held w wx pd (.bool mrk) (.int .u8 typ) (.int .u16 seq) (.int .u32 time) (.int .u32 ssrc) (.slice a n c) (.bool ext) (.int .u16 prof) (.string data) (.string ⟨Q.toArray⟩) (.int .i64 pad))
  case first =>
    have hh := HE.out
    have z1 : (9223372036854775807 < H.length + Q.length) = False := by simp; omega
    clear HTX HE RN l1 HROW
    go_region_held3 (fun w' => New w w' ∧ pd < w'.heap.size ∧ w'.cell? ⟨pd, 0, none⟩ = some (.bool mrk) ∧ w'.cell? ⟨pd, 1, none⟩ = some (.int .u8 typ) ∧ w'.cell? ⟨pd, 2, none⟩ = some (.int .u16 seq) ∧ w'.cell? ⟨pd, 3, none⟩ = some (.int .u32 time) ∧ w'.cell? ⟨pd, 4, none⟩ = some (.int .u32 ssrc) ∧ w'.cell? ⟨pd, 5, none⟩ = some (.slice a n c) ∧ w'.cell? ⟨pd, 6, none⟩ = some (.bool ext) ∧ w'.cell? ⟨pd, 7, none⟩ = some (.int .u16 prof) ∧ w'.cell? ⟨pd, 8, none⟩ = some (.string data) ∧ w'.cell? ⟨pd, 9, none⟩ = some (.string ⟨Q.toArray⟩) ∧ w'.cell? ⟨pd, 10, none⟩ = some (.int .i64 pad)) (first | assumption | (refine held_drew ?_; assumption) | (refine held_new (by assumption) (by assumption)))
      (first
        | (go_at_call 48; (with_reducible refine Calls.mono (RH.out _ (HROW1.out _ ?_)) ?_); (focus (apply held_nw; assumption)); rintro en wq ⟨rfl, hnq⟩))
    all_goals
      go_wp2_with fail
      go_meet
      case rel => exact ⟨congrArg Value.string (cat_mk H Q), by assumption⟩
  case rest =>
    obtain ⟨rfl, hh2⟩ := hcut
    obtain ⟨Z, hZ⟩ : ∃ Y : List UInt8, Y = H ++ Q := ⟨_, rfl⟩
    have z1 : Z.length ≤ 3200 := by rw [hZ, List.length_append]; omega
    rw [← hZ] at HTX ⊢
    clear hZ HE HROW HROW1 RH hl1 hda hpy hcn
    obtain ⟨m, hm⟩ : ∃ m : Nat, (pad = 0 ∧ m = 0) ∨ pad = (m : Int) + 1 := by
      by_cases h : pad = 0
      · exact ⟨0, .inl ⟨h, rfl⟩⟩
      · exact ⟨(pad - 1).toNat, .inr (by omega)⟩
    have HM := Lib.hid hm
    clear hm
    have HH := Lib.hid hh2
    obtain ⟨hn4, hl4, c0, c1, c2, c3, c4, c5, c6, c7, c8, c9, c10⟩ := hh2
    go_wp2_with fail
    go_loop [3, 4] (fun v i => ∃ j : Nat, j ≤ m ∧ i = .int .i64 ((j : Int) + 1) ∧ v = .string ⟨(Z ++ List.replicate j 0).toArray⟩) (fun _ i => (m + 1) - (intOf i).toNat)
    case atStart => exact ⟨0, Nat.zero_le _, rfl, by simp⟩
    case round =>
      obtain ⟨j, hj, rfl, rfl⟩ := hrel
      have hmm := HM.out
      obtain ⟨X, hX⟩ : ∃ X : List UInt8, X = Z ++ List.replicate j 0 := ⟨_, rfl⟩
      have x1 : X.length ≤ 3500 := by rw [hX]; simp only [List.length_append, List.length_replicate]; omega
      have HF := Lib.hid (rep_add Z j)
      rw [← hX] at HF ⊢
      have HX := Lib.hid hX
      clear hX
      by_cases hlt : j < m
      · have ht1 : (j : Int) + 1 < pad := by omega
        have z3 : (9223372036854775807 < X.length + 1) = False := by simp; omega
        clear hmm
        go_wp2_with fail
        go_round
        case rel => exact ⟨j + 1, by omega, by go_num, by rw [← HF.out]; exact congrArg Value.string (cat_mk X [0])⟩
        case measure => simp [intOf]; omega
      · obtain rfl : j = m := by omega
        have ht1 : ¬ (j : Int) + 1 < pad := by omega
        by_cases hp0 : 0 < pad
        · have hp1 : pad = (j : Int) + 1 := by omega
          have hp2 : (pad - 1).toNat = j := by omega
          rw [if_pos hp0, hp2, ← List.append_assoc, ← HX.out] at HTX
          have s1 : IntKind.u64.wrap pad = pad := by rw [IntKind.wrap_u64]; omega
          have z3 : (9223372036854775807 < X.length + L.length) = False := by simp; omega
          clear hp1 hp2 hmm l1
          go_wp2_with (go_at_call 49; (with_reducible refine Calls.mono (RN.out _) ?_); rintro e w' ⟨rfl, hnq⟩)
          go_ret
          exact ⟨by rw [HTX.out]; exact congrArg (fun x => Ending.returned (.string x)) (cat_mk X L), HH.out.1.trans (hnq.mono (fun _ _ h => h.elim))⟩
        · have hj0 : j = 0 := by omega
          subst hj0
          rw [if_neg hp0, List.append_nil] at HTX
          have hXZ : X = Z := by rw [HX.out]; simp
          clear hmm
          go_wp2_with fail
          go_ret
          exact ⟨by rw [HTX.out]; rfl, HH.out.1⟩
end Go.Proofs.Ytijpgkkhjjpjoaa.rp
