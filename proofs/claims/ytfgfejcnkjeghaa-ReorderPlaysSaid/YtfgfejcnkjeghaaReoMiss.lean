/-
  reorder.Buffer: Missing; and the reference's Missing needs the same.
-/
import Derived.Test.YtfgfejcnkjeghaaReoPut
import Derived.Test.YtfgfejcnkjeghaaIntRows
namespace Go.Proofs.Ytfgfejcnkjeghaa.reo
open Go.RowKit mem
open ints (IE)
set_option linter.unusedVariables false

abbrev JT : TypeId := 2
theorem infoJ : (Try.prog.info? JT).map (fun i => (i.zero, i.size, i.bytes)) = some (some (.int .i64 0), 1, 8) := by kernel_rfl

theorem own_ne {α : Type} {E : Enc α} {w : World} {r : Nat} {v : Value} {l : List α} {ds : Array Value} {T U : TypeId} (h : Owns E T w v l) (k : Blk w r ds U) (hT : T ≠ U) : v.ownBlock ≠ some r := by
  intro e
  rcases h.2 with ⟨rfl, _⟩ | ⟨g, cap, cur, rfl, _, hb, _⟩
  · simp [Value.ownBlock] at e
  · have : g = r := by simpa [Value.ownBlock] using e
    subst this
    unfold Blk at k
    rw [hb] at k
    injection k with k
    injection k with _ k
    exact hT k

def gapsN (a : Int) (n : Nat) : List Int := (List.range n).map (fun (i : Nat) => a + (i : Int))
theorem gapsN_length (a : Int) (n : Nat) : (gapsN a n).length = n := by simp [gapsN]
theorem gapsN_succ (a : Int) (n : Nat) : gapsN a (n + 1) = gapsN a n ++ [a + (n : Int)] := by simp [gapsN, List.range_succ]
def accM (s : Int × List Int) (x : Th) : Int × List Int := (x.at_ + 1, s.2 ++ gapsN s.1 (x.at_ - s.1).toNat)
/-- behind the first k things: what is awaited, what is missing -/
def missK (b : B) (k : Nat) : Int × List Int := (b.L.take k).foldl accM (b.next, [])
def missA (b : B) : List Int := (missK b b.L.length).2
theorem missK_succ (b : B) (k : Nat) (x : Th) (h : b.L[k]? = some x) : missK b (k + 1) = accM (missK b k) x := by
  unfold missK
  rw [List.take_add_one, h, List.foldl_append]
  rfl
theorem fold_pre : ∀ (l : List Th) (s : Int × List Int), ∃ r, (l.foldl accM s).2 = s.2 ++ r
  | [], s => ⟨[], by simp⟩
  | x :: l, s => by
    obtain ⟨r, h⟩ := fold_pre l (accM s x)
    exact ⟨gapsN s.1 (x.at_ - s.1).toNat ++ r, by rw [List.foldl_cons, h]; simp [accM]⟩
theorem missK_pre (b : B) (k : Nat) : ∃ r, missA b = (missK b k).2 ++ r := by
  unfold missA missK
  by_cases hk : k ≤ b.L.length
  · obtain ⟨r, h⟩ := fold_pre (b.L.drop k) ((b.L.take k).foldl accM (b.next, []))
    refine ⟨r, ?_⟩
    rw [← h, ← List.foldl_append, List.take_append_drop, List.take_length]
  · exact ⟨[], by rw [List.take_length, List.take_of_length_le (by omega), List.append_nil]⟩
theorem missK_at {b : B} {M : Int} (h : b.ok M) (k : Nat) (x : Th) (hx : b.L[k]? = some x) : 0 ≤ (missK b k).1 ∧ (missK b k).1 ≤ x.at_ ∧ x.at_ ≤ M := by
  have hxm := List.mem_of_getElem? hx
  cases k with
  | zero => exact ⟨h.n1, h.at1 x hxm, h.at2 x hxm⟩
  | succ k =>
    obtain ⟨hk, e⟩ := List.getElem?_eq_some_iff.1 hx
    have hy : b.L[k]? = some b.L[k] := List.getElem?_eq_getElem (by omega)
    rw [missK_succ b k _ hy]
    have h1 := h.asc.lt k (k + 1) (by omega) hk
    rw [e] at h1
    have h2 := h.at1 _ (List.getElem_mem (show k < b.L.length by omega))
    have := h.n1
    exact ⟨by show 0 ≤ b.L[k].at_ + 1; omega, by show b.L[k].at_ + 1 ≤ x.at_; omega, h.at2 x hxm⟩
/-- cut at the m-th, in the middle of the k-th's gap -/
theorem miss_cut {b : B} {k : Nat} {x : Th} (hx : b.L[k]? = some x) (j : Nat) (hj : j ≤ (x.at_ - (missK b k).1).toNat) (m : Nat) (hm : ((missK b k).2 ++ gapsN (missK b k).1 j).length = m) : (missK b k).2 ++ gapsN (missK b k).1 j = (missA b).take m := by
  obtain ⟨r, hr⟩ := missK_pre b (k + 1)
  rw [missK_succ b k x hx] at hr
  have hg : gapsN (missK b k).1 (x.at_ - (missK b k).1).toNat = gapsN (missK b k).1 j ++ (gapsN (missK b k).1 (x.at_ - (missK b k).1).toNat).drop j := by
    conv => lhs; rw [← List.take_append_drop j (gapsN (missK b k).1 (x.at_ - (missK b k).1).toNat)]
    congr 1
    unfold gapsN
    rw [← List.map_take, List.take_range, Nat.min_eq_left hj]
  rw [hr]
  show _ = List.take m ((missK b k).2 ++ gapsN (missK b k).1 (x.at_ - (missK b k).1).toNat ++ r)
  rw [hg, ← List.append_assoc, List.append_assoc, List.take_append_of_le_length (by omega), List.take_of_length_le (by omega)]

set_option maxRecDepth 10000 in
set_option maxHeartbeats 4000000 in
theorem missing_ (p : Nat) (v : Value) (b : B) (most M : Int) (w : World) (h : Bs w p v b) (ho : b.ok M) (hM : M ≤ 1099511627776) (hm : most ≤ 1000) :
    Calls Try.prog 14 #[.pointer (some ⟨p, 0, none⟩), .int .i64 most] w fun e w' => ∃ u, e = .returned u ∧ Gr IE JT w w' u ((missA b).take most.toNat) := by
  have HB := Lib.hid h
  have HO := Lib.hid ho
  have hlen := ho.len
  obtain ⟨ao, c, hv, hc, _⟩ := h.at_
  have c2 := h.c2
  have c3 := h.c3
  have H0 : Hid (Gr IE JT w w (.slice none 0 0) (missK b 0).2) := Lib.hid (Gr.nil _ _ _ _ (Turns.refl _ _))
  have HA0 : Hid ((missK b 0).1 = b.next) := Lib.hid rfl
  clear h ho
  subst hv
  generalize hll : b.L.length = len at *
  have HLL := Lib.hid hll
  clear hll
  generalize b.next = nx at *
  go_enter Try.func14, Try.ntmps14
  go_wp2_with fail
  go_loopw [5, 6, 18] (fun u a i wr => ∃ k : Nat, k ≤ len ∧ i = .int .i64 k ∧ a = .int .i64 (missK b k).1 ∧ Gr IE JT w wr u (missK b k).2 ∧ (missK b k).2.length ≤ most.toNat) (fun _ _ i _ => len - (intOf i).toNat)
  case atStart => exact ⟨0, by omega, rfl, by rw [HA0.out], H0.out, by show 0 ≤ _; omega⟩
  case round =>
    obtain ⟨k, hk, rfl, rfl, hg, hlm⟩ := hrel
    have HG := Lib.hid hg
    have HLM := Lib.hid hlm
    clear H0 HA0
    by_cases hlt : k < len
    · obtain ⟨x, hx⟩ : ∃ x, b.L[k]? = some x := ⟨_, List.getElem?_eq_getElem (by have := HLL.out; omega)⟩
      obtain ⟨ao', c', hv', _, hat⟩ := (HB.out.later hg.n).at_
      obtain ⟨g, hao, _, hgl, z0, z1, z2⟩ := hat k x hx
      rw [HLL.out] at hv'
      injection hv' with e1 _ e3
      subst e1 e3
      subst hao
      have HX := Lib.hid hx
      obtain ⟨b1, b2, b3⟩ := missK_at HO.out k x hx
      have hltI : (k : Int) < (len : Int) := by omega
      have dlt : decide ((k : Int) < (len : Int)) = true := decide_eq_true hltI
      have HSU := Lib.hid (missK_succ b k x hx)
      have HCU := Lib.hid (fun j => miss_cut (b := b) hx j)
      obtain ⟨d, hd⟩ : ∃ d, d = (x.at_ - (missK b k).1).toNat := ⟨_, rfl⟩
      have HXA : Hid (x.at_ = (missK b k).1 + (d : Int)) := Lib.hid (by omega)
      have hdb : (missK b k).1 + (d : Int) ≤ M := by omega
      have HAC : Hid (accM (missK b k) x = ((missK b k).1 + (d : Int) + 1, (missK b k).2 ++ gapsN (missK b k).1 d)) := Lib.hid (by unfold accM; rw [← hd, HXA.out])
      rw [← hd] at HCU
      rw [HXA.out] at z0
      clear hat hg hx b2 b3 hd hlm
      generalize (missK b k).1 = a0 at *
      generalize (missK b k).2 = o0 at *
      have BP : Hid (Blk (wr.alloc (.cells #[.int .i64 (a0 + (d : Int)), .string x.tx, .int .i64 x.tick] PT)) wr.heap.size #[.int .i64 (a0 + (d : Int)), .string x.tx, .int .i64 x.tick] PT) := Lib.hid (Blk.new _ _ _)
      have HG2 : Hid (Gr IE JT w (wr.alloc (.cells #[.int .i64 (a0 + (d : Int)), .string x.tx, .int .i64 x.tick] PT)) u5 o0) := Lib.hid (HG.out.later ((Turns.refl _ _).alloc _))
      go_upto_region 6 with fail
      refine (show Code.wp _ _ _ _ (wr.alloc (.cells #[.int .i64 (a0 + (d : Int)), .string x.tx, .int .i64 x.tick] PT)) from ?_)
      generalize wr.alloc (.cells #[.int .i64 (a0 + (d : Int)), .string x.tx, .int .i64 x.tick] PT) = w2 at *
      generalize wr.heap.size = pp at *
      clear z0 z1 z2 hgl HG
      go_loopw [5, 6] (fun u a wx => ∃ j : Nat, j ≤ d ∧ a = .int .i64 (a0 + (j : Int)) ∧ Gr IE JT w wx u (o0 ++ gapsN a0 j) ∧ Blk wx pp #[.int .i64 (a0 + (d : Int)), .string x.tx, .int .i64 x.tick] PT ∧ o0.length + j ≤ most.toNat) (fun _ a _ => (a0 + (d : Int) - intOf a).toNat)
      case atStart => exact ⟨0, Nat.zero_le _, by simp, by simpa [gapsN] using HG2.out, BP.out, by have := HLM.out; omega⟩
      case round =>
        obtain ⟨j, hj, rfl, hgj, hbj, hmj⟩ := hrel
        have HGJ := Lib.hid hgj
        have HBJ := Lib.hid hbj
        have HLJ : Hid ((o0 ++ gapsN a0 j).length = o0.length + j) := Lib.hid (by rw [List.length_append, gapsN_length])
        obtain ⟨aj, cj, hvj, _⟩ := hgj.own.form
        rw [HLJ.out] at hvj
        have zz := hbj.cell 0
        change wr.cell? ⟨pp, 0, none⟩ = some (.int .i64 (a0 + (d : Int))) at zz
        clear HG2 BP hgj hbj
        subst hvj
        by_cases hjd : j < d
        · have d1 : decide (a0 + (j : Int) < a0 + (d : Int)) = true := decide_eq_true (by omega)
          by_cases hmm : most ≤ ((o0.length + j : Nat) : Int)
          · have d2 : decide (most ≤ ((o0.length + j : Nat) : Int)) = true := decide_eq_true hmm
            have HRES : Hid (o0 ++ gapsN a0 j = (missA b).take most.toNat) := Lib.hid (HCU.out j hj _ (by rw [HLJ.out]; omega))
            go_wp2
            go_ret
            exact ⟨_, rfl, by rw [← HRES.out]; exact HGJ.out⟩
          · have d2 : decide (most ≤ ((o0.length + j : Nat) : Int)) = false := decide_eq_false hmm
            have s1 : IntKind.i64.wrap (a0 + (j : Int) + 1) = a0 + (j : Int) + 1 := IntWalk.i64_in _ (by omega)
            go_wp2_with (at_builtin; refine wpList_append_one (E := IE) Try.underlying41 infoJ rfl (by decide) (by decide) rfl _ _ rfl _ (o0 ++ gapsN a0 j) (a0 + (j : Int)) rfl (HGJ.out.own.turns (S := fun _ => False) ((Turns.refl _ _).alloc _) (fun _ _ h => h)) wr.heap.size rfl (heap_alloc_new wr _) (by rw [HLJ.out]; omega) ?_; intro v6 w6 hown6 hgrow6 hat6)
            have HG6 := Lib.hid (HGJ.out.push hown6 hgrow6 hat6)
            have HB6 : Hid (Blk w6 pp #[.int .i64 (a0 + (d : Int)), .string x.tx, .int .i64 x.tick] PT) := Lib.hid ((Gr.turned hgrow6).blk HBJ.out (fun e => own_ne HGJ.out.own HBJ.out (by decide) e.symm))
            clear hown6 hgrow6 hat6
            go_wp2_with fail
            go_roundw
            case rel => exact ⟨j + 1, by omega, by push_cast; go_num, by rw [gapsN_succ, ← List.append_assoc]; exact HG6.out, HB6.out, by omega⟩
            case measure => simp [intOf]; omega
        · obtain rfl : j = d := by omega
          have d1 : decide (a0 + (j : Int) < a0 + (j : Int)) = false := decide_eq_false (by omega)
          have s1 : IntKind.i64.wrap (a0 + (j : Int) + 1) = a0 + (j : Int) + 1 := IntWalk.i64_in _ (by omega)
          go_wp2_with fail
          go_roundw
          case rel => exact ⟨k + 1, by omega, by go_num, by rw [HSU.out, HAC.out], by rw [HSU.out, HAC.out]; exact HGJ.out, by rw [HSU.out, HAC.out]; show (o0 ++ gapsN a0 j).length ≤ _; rw [HLJ.out]; exact hmj⟩
          case measure => simp [intOf]; omega
    · obtain rfl : k = len := by omega
      have dlt : decide ((k : Int) < (k : Int)) = false := decide_eq_false (by omega)
      have HRES : Hid ((missK b k).2 = (missA b).take most.toNat) := Lib.hid (by unfold missA; rw [HLL.out, List.take_of_length_le HLM.out])
      clear hlt hg
      go_wp2
      go_ret
      exact ⟨_, rfl, by rw [← HRES.out]; exact HG.out⟩
end Go.Proofs.Ytfgfejcnkjeghaa.reo
