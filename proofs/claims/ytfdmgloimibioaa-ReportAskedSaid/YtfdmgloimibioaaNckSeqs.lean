/-
  rtcp: the numbers of a Nack's pairs.
-/
import Derived.Test.YtfdmgloimibioaaRepRead
import Derived.Test.YtfdmgloimibioaaGrow
namespace Go.Proofs.Ytfdmgloimibioaa.rep
open Go.RowKit mem
set_option linter.unusedVariables false

/-- a pair -/
structure PP where
  n : Int
  m : Int
def PPE : Enc PP := ⟨2, fun x => [.int .u16 x.n, .int .u16 x.m], fun _ => rfl, by intro a u hu; simp at hu; rcases hu with rfl | rfl <;> rfl⟩
abbrev PrT : TypeId := 125
theorem infoU : (Try.prog.info? U16).map (fun i => (i.zero, i.size, i.bytes)) = some (some (.int .u16 0), 1, 2) := by kernel_rfl

def bitB (m : Int) (j : Nat) : Bool := bits BinOp.and .u16 (m / 2 ^ j) 1 != 0
def numU (n : Int) (j : Nat) : Int := (n + 1 + (j : Int)) % 65536
/-- the numbers of a pair, as far as bit j -/
def sqK (x : PP) : Nat → List Int
  | 0 => [x.n]
  | j + 1 => if bitB x.m j = true then sqK x j ++ [numU x.n j] else sqK x j
def sqAll : List PP → List Int
  | [] => []
  | x :: l => sqK x 16 ++ sqAll l
theorem sqAll_append (l m : List PP) : sqAll (l ++ m) = sqAll l ++ sqAll m := by
  induction l with
  | nil => rfl
  | cons x l ih => simp [sqAll, ih]
theorem sqK_len (x : PP) (j : Nat) : (sqK x j).length ≤ j + 1 := by
  induction j with
  | zero => simp [sqK]
  | succ j ih =>
    unfold sqK
    split
    · rw [List.length_append, List.length_singleton]; omega
    · omega
theorem sqAll_len (l : List PP) : (sqAll l).length ≤ 17 * l.length := by
  induction l with
  | nil => simp [sqAll]
  | cons x l ih => have := sqK_len x 16; simp only [sqAll, List.length_append, List.length_cons]; omega

/-- what a list of pairs reads as -/
def RdP (w : World) (ao : Option Addr) (l : List PP) : Prop := l = [] ∨ ∃ b off, ao = some ⟨b, off, none⟩ ∧ b < w.heap.size ∧ ∀ k x, l[k]? = some x → w.cell? ⟨b, off + k * 2, none⟩ = some (.int .u16 x.n) ∧ w.cell? ⟨b, off + k * 2 + 1, none⟩ = some (.int .u16 x.m)
structure PP.ok (x : PP) : Prop where
  n0 : 0 ≤ x.n
  n1 : x.n ≤ 65535
  m0 : 0 ≤ x.m
  m1 : x.m ≤ 65535

set_option maxHeartbeats 2000000 in
theorem seqs (f t : Int) (ao : Option Addr) (c : Nat) (l : List PP) (w : World) (h : RdP w ao l) (hl : l.length ≤ 1000) (hok : ∀ x ∈ l, x.ok) :
    Calls Try.prog 35 #[.agg #[.int .u32 f, .int .u32 t, .slice ao l.length c]] w fun e w' => ∃ v, e = .returned v ∧ Gr UE U16 w w' v (sqAll l) := by
  have HR := Lib.hid h
  have HOK := Lib.hid hok
  have hlm : l.length ≤ maxLen := by unfold maxLen; omega
  have HN0 : Hid (New w (w.alloc (.cells #[.int .u32 f, .int .u32 t, .slice ao l.length c] 98))) := Lib.hid ((Turns.refl _ _).alloc _)
  clear h hok
  go_enter Try.func35, Try.ntmps35
  go_wp2_with fail
  go_loopw [3, 10] (fun v i wr => ∃ k : Nat, k ≤ l.length ∧ i = .int .i64 k ∧ Gr UE U16 w wr v (sqAll (l.take k))) (fun _ i _ => l.length - (intOf i).toNat)
  case atStart => exact ⟨0, Nat.zero_le _, rfl, Gr.nil _ _ _ _ HN0.out⟩
  case round =>
    obtain ⟨k, hk, rfl, hgr⟩ := hrel
    have HG := Lib.hid hgr
    clear hgr HN0
    by_cases hlt : k < l.length
    · obtain ⟨x, hx⟩ : ∃ x, l[k]? = some x := ⟨_, List.getElem?_eq_getElem hlt⟩
      obtain ⟨b, off, rfl, hb, hc⟩ := HR.out.resolve_left (fun e => by rw [e] at hlt; exact absurd hlt (Nat.not_lt_zero _))
      obtain ⟨c0, c1⟩ := hc k x hx
      have d0 := (HG.out.n.cell (a := ⟨b, off + k * 2, none⟩) hb (fun h => h)).trans c0
      have d1 := (HG.out.n.cell (a := ⟨b, off + k * 2 + 1, none⟩) hb (fun h => h)).trans c1
      have hxo := HOK.out x (List.mem_of_getElem? hx)
      have n0 := hxo.n0
      have n1 := hxo.n1
      have m0 := hxo.m0
      have m1 := hxo.m1
      have HTK : Hid (sqAll (l.take (k + 1)) = sqAll (l.take k) ++ sqK x 16) := Lib.hid (by rw [List.take_add_one, hx, sqAll_append]; simp [sqAll])
      have hlen : (sqAll (l.take k)).length ≤ 17000 := by have := sqAll_len (l.take k); rw [List.length_take] at this; omega
      clear c0 c1 hc hx hxo hb
      generalize sqAll (l.take k) = S at *
      obtain ⟨xn, xm⟩ := x
      dsimp only at *
      have BP : Hid (Blk (wr.alloc (.cells #[.int .u16 xn, .int .u16 xm] PrT)) wr.heap.size #[.int .u16 xn, .int .u16 xm] PrT) := Lib.hid (Blk.new _ _ _)
      have HG2 : Hid (Gr UE U16 w (wr.alloc (.cells #[.int .u16 xn, .int .u16 xm] PrT)) u3 S ∧ ∀ g, u3.ownBlock = some g → g ≠ wr.heap.size) := Lib.hid ⟨HG.out.later ((Turns.refl _ _).alloc _), fun g hg e => by have := HG.out.own.lt g hg; omega⟩
      clear HG
      go_upto_region 5 with fail
      refine (show Code.wp _ _ _ _ (wr.alloc (.cells #[.int .u16 xn, .int .u16 xm] PrT)) from ?_)
      generalize wr.alloc (.cells #[.int .u16 xn, .int .u16 xm] PrT) = w2 at *
      generalize wr.heap.size = pp at *
      clear d0 d1
      have x0 := BP.out.cell 0
      have x1 := BP.out.cell 1
      go_upto_region 6 with (at_builtin; refine wpList_append_one (E := UE) Try.underlying30 infoU rfl (by decide) (by decide) rfl _ _ rfl _ S xn rfl (HG2.out.1.own.turns (S := fun _ => False) ((Turns.refl _ _).alloc _) (fun _ _ h => h)) w2.heap.size rfl (heap_alloc_new w2 _) (by omega) ?_; intro v4 w4 hown4 hgrow4 hat4)
      have hpl := BP.out.lt
      have HG4 : Hid (Gr UE U16 w w4 v4 (S ++ sqK ⟨xn, xm⟩ 0) ∧ (∀ g, v4.ownBlock = some g → g ≠ pp) ∧ Blk w4 pp #[.int .u16 xn, .int .u16 xm] PrT) := Lib.hid ⟨HG2.out.1.push hown4 hgrow4 hat4, (fun g hg e => by
        rcases hat4 with e2 | e2
        · exact HG2.out.2 g (by rw [← hg, e2]; rfl) e
        · rw [e2] at hg; injection hg with hg; simp at hg; omega), (Gr.turned hgrow4).blk BP.out (fun e => HG2.out.2 pp e.symm rfl)⟩
      clear hown4 hgrow4 hat4 HG2 BP x0 x1
      go_wp2_with fail
      go_loopw [3, 19] (fun v i wx => ∃ jj : Nat, jj ≤ 16 ∧ i = .int .u16 jj ∧ Gr UE U16 w wx v (S ++ sqK ⟨xn, xm⟩ jj) ∧ (∀ g, v.ownBlock = some g → g ≠ pp) ∧ Blk wx pp #[.int .u16 xn, .int .u16 xm] PrT) (fun _ i _ => 16 - (intOf i).toNat)
      case atStart => exact ⟨0, by omega, rfl, HG4.out⟩
      case round =>
        obtain ⟨jj, hjj, rfl, hgr5, hne5, hb5⟩ := hrel
        have z0 := hb5.cell 0
        have z1 := hb5.cell 1
        have HG5 := Lib.hid (And.intro hgr5 (And.intro hne5 hb5))
        clear hgr5 hne5 hb5 HG4
        by_cases hlt6 : jj < 16
        · have HKS : Hid (sqK ⟨xn, xm⟩ (jj + 1) = if bitB xm jj = true then sqK ⟨xn, xm⟩ jj ++ [numU xn jj] else sqK ⟨xn, xm⟩ jj) := Lib.hid rfl
          have hkl := sqK_len ⟨xn, xm⟩ jj
          generalize sqK ⟨xn, xm⟩ jj = Kj at *
          have HBB : Hid (bitB xm jj = (bits BinOp.and .u16 (xm / 2 ^ jj) 1 != 0)) := Lib.hid rfl
          have hw1 : IntKind.u16.wrap (IntKind.u16.wrap (xn + 1) + (jj : Int)) = numU xn jj := by
            show ((xn + 1) % 65536 + (jj : Int)) % 65536 = _
            unfold numU; omega
          generalize numU xn jj = nj at *
          by_cases hbit : (bits BinOp.and .u16 (xm / 2 ^ jj) 1 != 0) = true
          · rw [HBB.out, if_pos hbit] at HKS
            go_wp2_with (at_builtin; refine wpList_append_one (E := UE) Try.underlying30 infoU rfl (by decide) (by decide) rfl _ _ rfl _ (S ++ Kj) nj rfl (HG5.out.1.own.turns (S := fun _ => False) ((Turns.refl _ _).alloc _) (fun _ _ h => h)) wr.heap.size rfl (heap_alloc_new wr _) (by simp; omega) ?_; intro v6 w6 hown6 hgrow6 hat6)
            have hpl := HG5.out.2.2.lt
            have HG6 : Hid (Gr UE U16 w w6 v6 (S ++ (Kj ++ [nj])) ∧ (∀ g, v6.ownBlock = some g → g ≠ pp) ∧ Blk w6 pp #[.int .u16 xn, .int .u16 xm] PrT) := Lib.hid ⟨by rw [← List.append_assoc]; exact HG5.out.1.push hown6 hgrow6 hat6, (fun g hg e => by
              rcases hat6 with e2 | e2
              · exact HG5.out.2.1 g (by rw [← hg, e2]; rfl) e
              · rw [e2] at hg; injection hg with hg; simp at hg; omega), (Gr.turned hgrow6).blk HG5.out.2.2 (fun e => HG5.out.2.1 pp e.symm rfl)⟩
            clear hown6 hgrow6 hat6
            go_roundw
            case rel => exact ⟨jj + 1, by omega, by go_num, by rw [HKS.out]; exact HG6.out.1, HG6.out.2⟩
            case measure => simp [intOf]; omega
          · rw [HBB.out, if_neg hbit] at HKS
            have hbf : (bits BinOp.and .u16 (xm / 2 ^ jj) 1 != 0) = false := by simpa using hbit
            clear hbit
            go_wp2_with fail
            go_roundw
            case rel => exact ⟨jj + 1, by omega, by go_num, by rw [HKS.out]; exact HG5.out.1, HG5.out.2⟩
            case measure => simp [intOf]; omega
        · obtain rfl : jj = 16 := by omega
          clear hlt6 hjj z0 z1
          go_wp2_with fail
          go_roundw
          case rel => exact ⟨k + 1, by omega, by go_num, by rw [HTK.out]; exact HG5.out.1⟩
          case measure => simp [intOf]; omega
    · obtain rfl : k = l.length := by omega
      have htk : Hid (l.take l.length = l) := Lib.hid List.take_length
      rw [htk.out] at HG
      clear hlt hk
      go_wp2
      go_ret
      exact ⟨_, rfl, HG.out⟩
end Go.Proofs.Ytfdmgloimibioaa.rep
