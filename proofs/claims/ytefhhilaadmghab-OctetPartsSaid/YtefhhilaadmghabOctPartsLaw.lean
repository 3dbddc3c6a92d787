/-
  OctetParts: bytes read in any parts, one behind the other, are all of them; what is padded is a multiple, and begins with what was put.
-/
import Derived.Test.YtefhhilaadmghabOctLit
import Derived.Test.YtefhhilaadmghabOctList
import Derived.Test.YtefhhilaadmghabMask
import Derived.Test.YtefhhilaadmghabArgs
namespace Go.Proofs.Ytefhhilaadmghab.oref
open Go.RowKit mem rd wr
set_option linter.unusedVariables false

theorem pad_nat (p : Nat) (q : Option Nat) (xs : List UInt8) (t : Nat) (w : World) (h : Wr w p q xs) (ht : 1 ≤ t) (hto : t ≤ 1048576) (hmax : xs.length ≤ 70368744177664) :
    Calls Try.prog 15 #[.pointer (some ⟨p, 0, none⟩), .int .i64 t] w fun en w' => en = .returned (.pointer (some ⟨p, 0, none⟩)) ∧ Wrote w w' p q (xs ++ List.replicate (padN xs.length t) 0) := by
  by_cases h1 : t = 1
  · subst h1
    have e : padN xs.length 1 = 0 := by unfold padN; omega
    rw [e, List.replicate_zero, List.append_nil]
    exact pad_one p q xs 1 w h (by omega)
  · exact pad_many p q xs t w h (by omega) hto hmax

/-- the reader, and what has been read -/
def Part (w0 wr : World) (P : Nat) (l done rest : List UInt8) : Prop := Rl wr P rest ∧ done ++ rest = l ∧ Below w0.heap.size w0 wr

theorem part_next {w0 wr w8 : World} {P : Nat} {l done rest A B : List UInt8} (h : Part w0 wr P l done rest) (h8 : Read1 wr.drew w8 P B) (he : (done ++ A) ++ B = l) (hP : w0.heap.size ≤ P := by omega) : Part w0 w8 P l (done ++ A) B :=
  ⟨h8.1, he, h.2.2.trans ((Turns.of_drew h8.2).below h.2.2.size (fun k _ hk => by omega))⟩

theorem rest_list (P : Nat) (l : List UInt8) (w : World) (h : Rl w P l) (hs : l.length ≤ 4611686018427387904) :
    Calls Try.prog 29 #[.pointer (some ⟨P, 0, none⟩)] w fun en w' => en = .returned (.string ⟨l.toArray⟩) ∧ Read1 w w' P [] := by
  have := rest P ⟨l.toArray⟩ 0 w h hs
  unfold Takes at this
  have h1 := takeB_mk l []
  have h2 := takeS_mk l [] 0
  have h3 := takeE_mk l [] 0
  rw [List.append_nil] at h1 h2 h3
  rw [size_mk, h1, h2, h3] at this
  exact this

theorem cat_size (a b : List UInt8) : (⟨a.toArray⟩ : ByteArray).size + (⟨b.toArray⟩ : ByteArray).size = (a ++ b).length := by rw [size_mk, size_mk, List.length_append]

set_option maxHeartbeats 2000000 in
theorem parts_law (s0 : ByteArray) (a : Option Addr) (n c : Nat) (z : Nat → Int) (to : Int) (w : World) (hs0 : s0.size ≤ maxLen) (hz : args.IntRow .i64 w a n c z) (_ : -9223372036854775808 ≤ to) (_ : to ≤ 9223372036854775807) :
    Calls Try.prog 6 #[.string s0, .slice a n c, .int .i64 to] w fun e w' => e = .returned (.bool true) ∧ Below w.heap.size w w' := by
  obtain ⟨hn, hok, hcell⟩ := hz
  unfold maxLen at hn hs0
  clear hok
  have HC := Lib.hid hcell
  clear hcell
  have hcs := cutS_size s0 60
  have K1 := Lib.hid (fun w => cut s0 60 (by omega) w)
  generalize cutS s0 60 = s at *
  obtain ⟨l, rfl⟩ : ∃ l : List UInt8, s = ⟨l.toArray⟩ := ⟨_, (eta_mk s).symm⟩
  rw [size_mk] at hcs
  have hm := mask.mask4 to
  go_enter Try.func6, Try.ntmps6
  go_wp2_with (first
    | (go_at_call 7; refine (K1.out _).mono ?_; rintro e w' ⟨rfl, rfl⟩)
    | (go_at_call 18; refine (read _ _).mono ?_; rintro e w' ⟨rfl, rfl⟩)
    | (go_at_call 8; refine (awake _).mono ?_; rintro e w1 ⟨rfl, hn1⟩))
  have hp0 : Part w (w1.alloc (.cells #[.string ⟨l.toArray⟩, .int .i64 0] 68)) w1.heap.size l [] l :=
    ⟨Blk.new w1 _ _, rfl, (hn1.below (Nat.le_refl _) (fun _ _ h => h.elim)).alloc hn1.size _⟩
  have HP0 := Lib.hid hp0
  have hPw := hn1.size
  obtain ⟨P, hP⟩ : ∃ P, P = w1.heap.size := ⟨_, rfl⟩
  rw [← hP] at HP0 hPw ⊢
  clear hp0 hn1 K1 hP
  go_loopw [8, 9] (fun v i wr => ∃ (k : Nat) (done rest : List UInt8), k ≤ n ∧ i = .int .i64 k ∧ v = .string ⟨done.toArray⟩ ∧ Part w wr P l done rest) (fun _ i _ => n - (intOf i).toNat)
  case atStart => exact ⟨0, [], l, Nat.zero_le _, rfl, rfl, HP0.out⟩
  case round =>
    clear HP0
    obtain ⟨k, done, rest, hk, rfl, rfl, hpt⟩ := hrel
    have hlen : done.length + rest.length = l.length := by rw [← hpt.2.1, List.length_append]
    have HPT := Lib.hid hpt
    clear hpt
    by_cases hgo : k < n ∧ k < 20
    · obtain ⟨hlt, hlt2⟩ := hgo
      obtain ⟨b, off, rfl, hbw, hcell⟩ := HC.out.resolve_left (by omega)
      have hck : wr.cell? ⟨b, off + k, none⟩ = some (.int .i64 (z k)) := (HPT.out.2.2.cell hbw).trans (hcell k hlt)
      clear hcell HC
      have hmk := mask.mask4 (z k)
      have hk1 : (k : Int) < (n : Int) := by omega
      -- what is taken, and what stays
      obtain ⟨A, B, m, hAB, hmA, hcase⟩ : ∃ (A B : List UInt8) (m : Int), rest = A ++ B ∧ m = (A.length : Int) ∧ (((rest.length : Int) < z k % 16 ∧ m = rest.length) ∨ (¬ (rest.length : Int) < z k % 16 ∧ m = z k % 16)) := by
        by_cases hle : (rest.length : Int) < z k % 16
        · exact ⟨rest, [], rest.length, by simp, rfl, .inl ⟨hle, rfl⟩⟩
        · refine ⟨rest.take (z k % 16).toNat, rest.drop (z k % 16).toNat, z k % 16, (List.take_append_drop _ _).symm, ?_, .inr ⟨hle, rfl⟩⟩
          rw [List.length_take]
          omega
      have HB := Lib.hid (fun W (h : Rl W P rest) => bytes_list P A B m hmA W (by rw [← hAB]; exact h) (by rw [← hAB]; omega))
      have HCAT := Lib.hid (cat_mk done A)
      have hAl : done.length + A.length ≤ 60 := by have := congrArg List.length hAB; rw [List.length_append] at this; omega
      have HE : Hid ((done ++ A) ++ B = l) := Lib.hid (by rw [List.append_assoc, ← hAB]; exact HPT.out.2.1)
      clear hmA hAB
      rcases hcase with ⟨hle, rfl⟩ | ⟨hle, rfl⟩
      all_goals
        go_wp2_with fail
        go_region_with (first
          | (go_at_call 27; refine (len _ _ _ _ (by exact HPT.out.1)).mono ?_; rintro e w8 ⟨rfl, rfl⟩)
          | (go_at_call 20; (with_reducible refine (HB.out _ ?_).mono ?_); (exact HPT.out.1); rintro e w8 ⟨rfl, hw8⟩))
        all_goals
          go_wp2
          go_roundw
          case rel => exact ⟨k + 1, done ++ A, B, by omega, by go_num, congrArg Value.string HCAT.out, part_next HPT.out hw8 HE.out⟩
          case measure => simp [intOf]; omega
    · -- the end
      have hk2 : ¬ (k : Int) < (n : Int) ∨ ((k : Int) < (n : Int) ∧ ¬ (k : Int) < 20) := by omega
      have HR := Lib.hid (rest_list P rest wr HPT.out.1 (by omega))
      have HCAT := Lib.hid (cat_mk done rest)
      have HE := Lib.hid HPT.out.2.1
      obtain ⟨t, ht, ht1, ht2⟩ : ∃ t : Nat, 1 + to % 16 = (t : Int) ∧ 1 ≤ t ∧ t ≤ 16 := ⟨(1 + to % 16).toNat, by omega, by omega, by omega⟩
      have hpl := pad_lt l.length t (by omega)
      have HPE := Lib.hid (pad_end l.length t (by omega))
      generalize hpk : padN l.length t = pk at *
      have HPK := Lib.hid hpk
      clear hpk HC hgo
      rcases hk2 with hk2 | ⟨hk2, hk3⟩
      all_goals
        go_wp2_with fail
        refine (HR.out).mono ?_
        rintro e w3 ⟨rfl, hr3, ht3⟩
        have hb3 : Below w.heap.size w w3 := HPT.out.2.2.trans (ht3.below HPT.out.2.2.size (fun k _ hk => by omega))
        have hcat : (⟨done.toArray⟩ : ByteArray) ++ ⟨rest.toArray⟩ = ⟨l.toArray⟩ := by rw [HCAT.out, HE.out]
        go_wp2_with fail
        have HW := Lib.hid (Wrote.refl (fresh (Blk.new w3 #[.slice none 0 0] 27)))
        refine (put_lit HW.out ⟨l.toArray⟩ (by rw [size_mk]; simp; omega) _ (by simp)).mono ?_
        rintro e w4 ⟨rfl, hw4⟩
        rw [List.nil_append] at hw4
        obtain ⟨q4, hw4', _, _, _, _, hst4, _⟩ := Wrote.call hw4
        go_wp2_with fail
        refine (pad_nat _ q4 l t w4 hw4' ht1 (by omega) (by omega)).mono ?_
        rintro e w5 ⟨rfl, hw5⟩
        have hw5' := hst4 _ _ hw5
        rw [HPK.out] at hw5'
        obtain ⟨q5, hb5, ht5, _⟩ := hw5'
        have hsz5 := ht5.size
        have hr5 : Rl w5 P [] := Rd.turns (Blk.alloc hr3 _ : Rd (w3.alloc (.cells #[.slice none 0 0] 27)) P _ _) ht5 (by have := Rd.lt hr3; rintro (h | h); omega; cases h)
        have hb5' : Below w.heap.size w w5 := (hb3.alloc hb3.size _).trans (ht5.below (by rw [World.size_alloc]; have := hb3.size; omega) (fun k _ h => by have := hb3.size; rcases h with h | h; omega; cases h))
        have HT := Lib.hid (text _ q5 _ w5 hb5)
        obtain ⟨T, hT, hT1, hT2⟩ : ∃ T : ByteArray, T = ⟨(l ++ List.replicate pk 0).toArray⟩ ∧ T.size = l.length + pk ∧ T.extract 0 l.length = ⟨l.toArray⟩ := by
          refine ⟨_, rfl, by rw [size_mk]; simp, ?_⟩
          rw [extract_mk]; simp
        rw [← hT] at HT
        have hmod : (((l.length + pk : Nat) : Int) % (t : Int) == 0) = true := by
          rw [← Int.natCast_emod, HPE.out]; rfl
        generalize htl : l.length + pk = tl at *
        have h1 : tl < l.length + t := by omega
        have h2 : l.length ≤ tl := by omega
        have h3 : tl ≤ 100 := by omega
        have HEND := Lib.hid (end_list P w5 hr5)
        clear hw5 hst4 hw4' hw4 hb5 ht5 HW htl hr3 ht3 hT
        go_wp2_with fail
        refine (HT.out).mono ?_
        rintro e w6 ⟨rfl, rfl⟩
        go_wp2_with fail
        refine (HEND.out).mono ?_
        rintro e w7 ⟨rfl, hr7, ht7⟩
        go_wp2
        go_ret
        exact ⟨rfl, hb5'.trans (ht7.below hb5'.size (fun k _ hk => by omega))⟩
end Go.Proofs.Ytefhhilaadmghab.oref
