/-
  GateTurns: until a key frame comes.
-/
import Derived.Test.YtmnaldfknhnacaaGatPaused
namespace Go.Proofs.Ytmnaldfknhnacaa.gat
open Go.RowKit mem
set_option linter.unusedVariables false

def atT (f t : Int) (j : Bool) : Int := if j = true then t else f
def TT (f t : Int) (j : Bool) : Int := if (j && (f != t)) = true then 1 else 0
def ST (f t : Int) (j : Bool) : G := ⟨true, t, true, atT f t j, false, 0, TT f t j⟩
theorem ST_ok (f t : Int) (j : Bool) (h0 : 0 ≤ f) (h1 : 0 ≤ t) : (ST f t j).ok := by
  refine ⟨h1, ?_, Int.le_refl 0, (by decide : (0 : Int) ≤ 1048576), ?_, ?_⟩
  · show 0 ≤ atT f t j; unfold atT; split <;> assumption
  · show 0 ≤ TT f t j; unfold TT; split <;> decide
  · show TT f t j ≤ 1048576; unfold TT; split <;> decide
def jn (t : Int) (j : Bool) (l : Int) (key : Bool) : Bool := j || (key && (l == t))
theorem ST_pass (f t : Int) (j : Bool) (l : Int) (key : Bool) : passG (ST f t j) l key = ST f t (jn t j l key) ∧ passB (ST f t j) l key = (l == atT f t (jn t j l key)) := by
  unfold passG passB
  rw [if_neg (show ¬ (ST f t j).p = true by simp [ST]), if_neg (show ¬ (ST f t j).p = true by simp [ST])]
  by_cases hk : (key && (l == t)) = true
  · have hg : goesB (ST f t j) l key = false := by show (true && !(key && (l == t))) = false; rw [hk]; rfl
    have hj : jn t j l key = true := by unfold jn; rw [hk]; simp
    have hl : l = t := by have := hk; simp at this; exact this.2
    rw [hg, hj]
    subst hl
    refine ⟨?_, by simp [atT]⟩
    unfold turnG ST atT TT
    cases j <;> by_cases hf : f = l <;> simp [hf]
  · have hk' : (key && (l == t)) = false := by simpa using hk
    have hg : goesB (ST f t j) l key = true := by show (true && !(key && (l == t))) = true; rw [hk']; rfl
    have hj : jn t j l key = j := by unfold jn; rw [hk']; simp
    rw [hg, hj]
    refine ⟨rfl, ?_⟩
    show (true && (atT f t j == l)) = (l == atT f t j)
    rw [Bool.true_and, Bool.beq_comm]
theorem ST_needs (f t : Int) (j : Bool) : needsB (ST f t j) = (atT f t j != t) := by
  show (!(!true || false || (true && (atT f t j == t)))) = _
  simp [bne]

theorem ST_open (p : Nat) (f t : Int) (j : Bool) (A : Int) (hA : atT f t j = A) (w : World) (h : Gt w p (ST f t j)) :
    Calls Try.prog 15 #[.pointer (some ⟨p, 0, none⟩)] w fun e w' => e = .returned (.tuple #[.int .i64 A, .bool true]) ∧ w = w' := by
  subst hA
  exact open_ p (ST f t j) w h
theorem ST_next (p : Nat) (f t : Int) (j j' : Bool) (l A : Int) (kb B : Bool) (f0 : 0 ≤ f) (t0 : 0 ≤ t) (hj : jn t j l kb = j') (hA : atT f t j' = A) (hB : (l == A) = B) (w : World) (h : Gt w p (ST f t j)) :
    Calls Try.prog 13 #[.pointer (some ⟨p, 0, none⟩), .int .i64 l, .bool kb] w fun e w' => e = .returned (.bool B) ∧ At w w' p (ST f t j') := by
  subst hB hA hj
  exact pass_is p (ST f t j) l kb _ _ (ST_pass f t j l kb) w h (ST_ok f t j f0 t0)

set_option maxHeartbeats 1000000 in
set_option maxRecDepth 100000 in
theorem turns_law (f0 t0 : Int) (a : Option Addr) (n c : Nat) (z : Nat → Int) (w : World) (_ : -9223372036854775808 ≤ f0) (_ : f0 ≤ 9223372036854775807) (_ : -9223372036854775808 ≤ t0) (_ : t0 ≤ 9223372036854775807) (hz : args.IntRow .i64 w a n c z) :
    Calls Try.prog 5 #[.int .i64 f0, .int .i64 t0, .slice a n c] w fun e w' => e = .returned (.bool true) ∧ Below w.heap.size w w' := by
  obtain ⟨hn, hwf, hcell⟩ := hz
  unfold maxLen at hn
  clear hwf
  have HC := Lib.hid hcell
  clear hcell
  have mf := mask.mask2 f0
  have mt := mask.mask2 t0
  obtain ⟨f, hf⟩ : ∃ f, f0 % 4 = f := ⟨_, rfl⟩
  obtain ⟨t, ht⟩ : ∃ t, t0 % 4 = t := ⟨_, rfl⟩
  rw [hf] at mf
  rw [ht] at mt
  have f0' : 0 ≤ f := by omega
  have f1' : f ≤ 3 := by omega
  have t0' : 0 ≤ t := by omega
  have t1' : t ≤ 3 := by omega
  clear hf ht
  have HN := Lib.hid (fun w => new true f w)
  have hfr : fresh true f = ⟨true, f, false, 0, false, 0, 0⟩ := by have : max f 0 = f := by omega
                                                                   unfold fresh; rw [this]
  rw [hfr] at HN
  clear hfr
  go_enter Try.func5, Try.ntmps5
  go_wp2_with fail
  refine (awake w).mono ?_
  rintro e w1 ⟨rfl, h1⟩
  have N1 := Lib.hid h1
  clear h1
  go_wp2_with fail
  refine (HN.out _).mono ?_
  rintro e w2 ⟨rfl, h2, n2⟩
  have hle : w.heap.size ≤ w1.heap.size := N1.out.size
  have N2 : Hid (New w w2) := Lib.hid (N1.out.trans (n2.mono (fun _ _ h => h.elim)))
  have o2 : (⟨true, f, false, 0, false, 0, 0⟩ : G).ok := ok_mk f0' (by decide) (by decide) (by decide) (by decide) (by decide)
  clear n2 HN
  generalize w1.heap.size = p at *
  clear N1
  have e1 : passG ⟨true, f, false, 0, false, 0, 0⟩ f true = ⟨true, f, true, f, false, 0, 0⟩ ∧ passB ⟨true, f, false, 0, false, 0, 0⟩ f true = true := by simp [passG, passB, goesB, turnG]
  go_wp2_with fail
  refine (pass_is p _ f true _ _ e1 _ h2 o2).mono ?_
  rintro e w3 ⟨rfl, h3⟩
  have N3 := Lib.hid (new_at N2.out h3 hle)
  have e2 : wantG ⟨true, f, true, f, false, 0, 0⟩ t = ST f t false := by
    have : max t 0 = t := by omega
    unfold wantG ST
    rw [this]; rfl
  have HW := Lib.hid (want p _ t _ h3.1)
  rw [e2] at HW
  clear h2 N2 e1 o2 e2
  go_wp2_with fail
  refine HW.out.mono ?_
  rintro e w4 ⟨rfl, h4⟩
  have N4 := Lib.hid (new_at N3.out h4 hle)
  have H4 := Lib.hid h4.1
  clear h3 N3 h4 HW
  go_wp2_with fail
  go_loopw [8, 9] (fun at' i wr => ∃ k : Nat, ∃ j : Bool, k ≤ n ∧ k ≤ 60 ∧ at' = .int .i64 (atT f t j) ∧ i = .int .i64 k ∧ Gt wr p (ST f t j) ∧ New w wr) (fun _ i _ => n - (intOf i).toNat)
  case atStart => exact ⟨0, false, Nat.zero_le _, by omega, rfl, rfl, H4.out, N4.out⟩
  case round =>
    obtain ⟨k, j, hk, hk60, rfl, rfl, hg, hnw⟩ := hrel
    clear H4 N4
    by_cases hgo : k < n ∧ k < 60
    · obtain ⟨hlt, hlt2⟩ := hgo
      obtain ⟨b, off, rfl, hb, hcell⟩ := HC.out.resolve_left (by omega)
      have hck := hcell k hlt
      have hck1 : wr.cell? ⟨b, off + k, none⟩ = some (.int .i64 (z k)) := (hnw.cell hb (fun h => h)).trans hck
      clear hcell HC hck
      have m2 := mask.mask2 (z k)
      have HNW := Lib.hid hnw
      have HG := Lib.hid hg
      clear hnw hg
      have k0 : (0 : Int) ≤ (k : Int) := by omega
      have kn : (k : Int) < (n : Int) := by omega
      generalize z k = zk at *
      obtain ⟨l, hl⟩ : ∃ l, zk % 4 = l := ⟨_, rfl⟩
      rw [hl] at m2
      clear hl
      obtain ⟨kb, hkb⟩ : ∃ kb, decide (0 < bits .and .i64 zk 4) = kb := ⟨_, rfl⟩
      have hd : decide ((k : Int) < 60) = true := by simp; omega
      go_upto_region 12 with fail
      go_cut [10, 11] (fun v10 v11 wx => v10 = .int .i64 l ∧ v11 = .bool kb ∧ New wr wx)
      case first =>
        go_region
        all_goals
          go_wp2_with fail
          go_meet
          case rel => exact ⟨rfl, rfl, by (repeat (first | (refine Turns.alloc ?_ _) | (refine Turns.drew ?_))); exact Turns.refl _ _⟩
      case rest =>
        obtain ⟨rfl, rfl, nc⟩ := hcut
        have HGc := Lib.hid (HG.out.turns nc (fun h => h))
        have HNc : Hid (New w wc) := Lib.hid (HNW.out.trans (nc.mono (fun _ _ h => h.elim)))
        clear hck1 HG HNW nc hkb m2
        by_cases hlt3 : l = t
        · subst hlt3
          cases kb
          · have hj : jn l j l false = j := by unfold jn; simp
            obtain ⟨A, hA⟩ : ∃ A, atT f l j = A := ⟨_, rfl⟩
            rw [hA]
            by_cases hlA : l = A
            · have hB : (l == A) = true := by simpa using hlA
              have HPc := Lib.hid (ST_next p f l j j l A false true f0' t0' hj hA hB wc HGc.out)
              have HO := Lib.hid (fun w h => ST_open p f l j A hA w h)
              have HA := Lib.hid hA
              have HBq := Lib.hid hB
              clear HGc hj hB hA hlA
              go_wp2_with fail
              refine HPc.out.mono ?_
              rintro e w5 ⟨rfl, h5⟩
              have N5 := Lib.hid (new_at HNc.out h5 hle)
              have H5 := Lib.hid h5.1
              clear h5 HPc
              have hB := HBq.out
              go_wp2_with fail
              refine (HO.out _ H5.out).mono ?_
              rintro e w6 ⟨rfl, rfl⟩
              clear HO
              go_wp2
              go_roundw
              case rel => exact ⟨k + 1, j, by omega, by omega, by rw [HA.out], by go_num, H5.out, N5.out⟩
              case measure => simp [intOf]; omega
            · have hB : (l == A) = false := by simpa using hlA
              have HPc := Lib.hid (ST_next p f l j j l A false false f0' t0' hj hA hB wc HGc.out)
              have HO := Lib.hid (fun w h => ST_open p f l j A hA w h)
              have HA := Lib.hid hA
              have HBq := Lib.hid hB
              clear HGc hj hB hA hlA
              go_wp2_with fail
              refine HPc.out.mono ?_
              rintro e w5 ⟨rfl, h5⟩
              have N5 := Lib.hid (new_at HNc.out h5 hle)
              have H5 := Lib.hid h5.1
              clear h5 HPc
              have hB := HBq.out
              go_wp2_with fail
              refine (HO.out _ H5.out).mono ?_
              rintro e w6 ⟨rfl, rfl⟩
              clear HO
              go_wp2
              go_roundw
              case rel => exact ⟨k + 1, j, by omega, by omega, by rw [HA.out], by go_num, H5.out, N5.out⟩
              case measure => simp [intOf]; omega
          · have hj : jn l j l true = true := by unfold jn; simp
            obtain ⟨A, hA⟩ : ∃ A, atT f l true = A := ⟨_, rfl⟩
            have hAl : A = l := by rw [← hA]; simp [atT]
            have hB : (l == A) = true := by rw [hAl]; simp
            subst hAl
            have HPc := Lib.hid (ST_next p f A j true A A true true f0' t0' hj hA hB wc HGc.out)
            have HO := Lib.hid (fun w h => ST_open p f A true A hA w h)
            have HA := Lib.hid hA
            have HBq := Lib.hid hB
            clear HGc hj hB hA
            go_wp2_with fail
            refine HPc.out.mono ?_
            rintro e w5 ⟨rfl, h5⟩
            have N5 := Lib.hid (new_at HNc.out h5 hle)
            have H5 := Lib.hid h5.1
            clear h5 HPc
            have hB := HBq.out
            go_wp2_with fail
            refine (HO.out _ H5.out).mono ?_
            rintro e w6 ⟨rfl, rfl⟩
            clear HO
            go_wp2
            go_roundw
            case rel => exact ⟨k + 1, true, by omega, by omega, by rw [HA.out], by go_num, H5.out, N5.out⟩
            case measure => simp [intOf]; omega
        · have hj : jn t j l kb = j := by unfold jn; have : (l == t) = false := by simpa using hlt3
                                          rw [this]; simp
          obtain ⟨A, hA⟩ : ∃ A, atT f t j = A := ⟨_, rfl⟩
          rw [hA]
          by_cases hlA : l = A
          · have hB : (l == A) = true := by simpa using hlA
            have HPc := Lib.hid (ST_next p f t j j l A kb true f0' t0' hj hA hB wc HGc.out)
            have HO := Lib.hid (fun w h => ST_open p f t j A hA w h)
            have HA := Lib.hid hA
            have HBq := Lib.hid hB
            clear HGc hj hB hA hlA
            go_wp2_with fail
            refine HPc.out.mono ?_
            rintro e w5 ⟨rfl, h5⟩
            have N5 := Lib.hid (new_at HNc.out h5 hle)
            have H5 := Lib.hid h5.1
            clear h5 HPc
            have hB := HBq.out
            go_wp2_with fail
            refine (HO.out _ H5.out).mono ?_
            rintro e w6 ⟨rfl, rfl⟩
            clear HO
            go_wp2
            go_roundw
            case rel => exact ⟨k + 1, j, by omega, by omega, by rw [HA.out], by go_num, H5.out, N5.out⟩
            case measure => simp [intOf]; omega
          · have hB : (l == A) = false := by simpa using hlA
            have HPc := Lib.hid (ST_next p f t j j l A kb false f0' t0' hj hA hB wc HGc.out)
            have HO := Lib.hid (fun w h => ST_open p f t j A hA w h)
            have HA := Lib.hid hA
            have HBq := Lib.hid hB
            clear HGc hj hB hA hlA
            go_wp2_with fail
            refine HPc.out.mono ?_
            rintro e w5 ⟨rfl, h5⟩
            have N5 := Lib.hid (new_at HNc.out h5 hle)
            have H5 := Lib.hid h5.1
            clear h5 HPc
            have hB := HBq.out
            go_wp2_with fail
            refine (HO.out _ H5.out).mono ?_
            rintro e w6 ⟨rfl, rfl⟩
            clear HO
            go_wp2
            go_roundw
            case rel => exact ⟨k + 1, j, by omega, by omega, by rw [HA.out], by go_num, H5.out, N5.out⟩
            case measure => simp [intOf]; omega
    · have HD := Lib.hid (fun w h => needs p (ST f t j) w h)
      rw [ST_needs f t j] at HD
      have HK := Lib.hid (counts p (ST f t j) wr hg)
      have hT : Hid ((ST f t j).t = TT f t j ∧ (ST f t j).s = 0 ∧ (ST f t j).m = t) := Lib.hid ⟨rfl, rfl, rfl⟩
      rw [hT.out.1, hT.out.2.1] at HK
      rw [hT.out.2.2] at HD
      have HG := Lib.hid hg
      have HNW := Lib.hid hnw
      clear hg hnw HC hT
      have hlk : Hid ((k : Int) < n ∧ ¬ (k : Int) < 60 ∨ ¬ (k : Int) < n) := Lib.hid (by omega)
      have e1 : atT f t j = (if j = true then t else f) := rfl
      have e2 : TT f t j = (if (j && (f != t)) = true then 1 else 0) := rfl
      rw [e1] at HD ⊢
      rw [e2] at HK
      clear e1 e2
      have ends : ∀ w', New w w' → Below w.heap.size w w' := fun w' h => h.below (Nat.le_refl _) (fun _ _ h => h.elim)
      have HE := Lib.hid ends
      clear ends
      by_cases hft : f = t
      · subst hft
        cases j <;> simp only [bne_self_eq_false, Bool.and_false, if_false, if_true, Bool.false_eq_true, Bool.false_and, Bool.true_and] at HK HD ⊢
        all_goals
          by_cases hlt : k < n
          · have hlt2 : ¬ k < 60 := by omega
            go_wp2_with fail
            refine HK.out.mono ?_
            rintro e w5 ⟨rfl, h5⟩
            have H5 := Lib.hid (HG.out.turns h5 (fun h => h))
            have N5 := Lib.hid (HNW.out.trans (h5.mono (fun _ _ h => h.elim)))
            clear h5
            go_wp2_with fail
            refine (HD.out _ H5.out).mono ?_
            rintro e w6 ⟨rfl, rfl⟩
            go_wp2
            go_ret
            exact ⟨rfl, HE.out _ N5.out⟩
          · go_wp2_with fail
            refine HK.out.mono ?_
            rintro e w5 ⟨rfl, h5⟩
            have H5 := Lib.hid (HG.out.turns h5 (fun h => h))
            have N5 := Lib.hid (HNW.out.trans (h5.mono (fun _ _ h => h.elim)))
            clear h5
            go_wp2_with fail
            refine (HD.out _ H5.out).mono ?_
            rintro e w6 ⟨rfl, rfl⟩
            go_wp2
            go_ret
            exact ⟨rfl, HE.out _ N5.out⟩
      · have hb : (f != t) = true := by simpa using hft
        have hb2 : (f == t) = false := by simpa using hft
        cases j <;> simp only [hb, Bool.and_true, if_false, if_true, Bool.false_eq_true, Bool.false_and, bne_self_eq_false] at HK HD ⊢
        all_goals
          by_cases hlt : k < n
          · have hlt2 : ¬ k < 60 := by omega
            go_wp2_with fail
            refine HK.out.mono ?_
            rintro e w5 ⟨rfl, h5⟩
            have H5 := Lib.hid (HG.out.turns h5 (fun h => h))
            have N5 := Lib.hid (HNW.out.trans (h5.mono (fun _ _ h => h.elim)))
            clear h5
            go_wp2_with fail
            refine (HD.out _ H5.out).mono ?_
            rintro e w6 ⟨rfl, rfl⟩
            go_wp2
            go_ret
            exact ⟨rfl, HE.out _ N5.out⟩
          · go_wp2_with fail
            refine HK.out.mono ?_
            rintro e w5 ⟨rfl, h5⟩
            have H5 := Lib.hid (HG.out.turns h5 (fun h => h))
            have N5 := Lib.hid (HNW.out.trans (h5.mono (fun _ _ h => h.elim)))
            clear h5
            go_wp2_with fail
            refine (HD.out _ H5.out).mono ?_
            rintro e w6 ⟨rfl, rfl⟩
            go_wp2
            go_ret
            exact ⟨rfl, HE.out _ N5.out⟩
end Go.Proofs.Ytmnaldfknhnacaa.gat
