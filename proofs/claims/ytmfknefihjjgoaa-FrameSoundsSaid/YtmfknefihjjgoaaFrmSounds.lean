/-
  FrameSounds: of sounds each unit is a frame.
-/
import Derived.Test.YtmfknefihjjgoaaFrmAwake
import Derived.Test.YtmfknefihjjgoaaFrmLen
import Derived.Test.YtmfknefihjjgoaaArgs
import Derived.Test.YtmfknefihjjgoaaMask
import Derived.WalkLawsBesides
import Derived.Laws.MakeOwn
import Derived.Laws.BytesArg
import Derived.Laws.OwnMore
namespace Go.Proofs.Ytmfknefihjjgoaa.frm
open Go.RowKit mem
set_option linter.unusedVariables false

def cS (m : Int) : C := ⟨false, m, 1, 3⟩
def zs (n : Nat) : ByteArray := ⟨(List.replicate n 0).toArray⟩
theorem zs_size (n : Nat) : (zs n).size = n := by simp [zs, ByteArray.size]
def uS (i : Nat) (q : Int) (mk st : Bool) (n : Nat) : U := ⟨5 * i, q, mk, st, false, zs n, 0⟩
theorem uS_ok (i : Nat) (q : Int) (mk st : Bool) (n : Nat) (hi : i ≤ 100) (hq : 0 ≤ q) (hq' : q ≤ 100) (hn : n ≤ 100) : (uS i q mk st n).ok :=
  ⟨by show (0 : Int) ≤ 5 * i; omega, by show (5 : Int) * i ≤ _; omega, hq, by show q ≤ _; omega, by show (0 : Int) ≤ 0; decide, by show (0 : Int) ≤ 1152921504606846976; decide, by show (zs n).size ≤ _; rw [zs_size]; omega⟩
theorem uS_put (m wh lo : Int) (i : Nat) (q : Int) (mk st : Bool) (n : Nat) (b : Bool) (hb : b = decide (m < n)) :
    putS ⟨cS m, [], wh, lo⟩ (uS i q mk st n) = (if b = true then ⟨cS m, [], wh, lo + 1⟩ else ⟨cS m, [], wh + 1, lo⟩) ∧ putF ⟨cS m, [], wh, lo⟩ (uS i q mk st n) = (if b = true then [] else [uS i q mk st n]) ∧ putOk ⟨cS m, [], wh, lo⟩ (uS i q mk st n) = !b := by
  have h1 : base ⟨cS m, [], wh, lo⟩ (uS i q mk st n) = ⟨cS m, [], wh, lo⟩ := by simp [base, contB, dropped]
  have h2 : pushed ⟨cS m, [], wh, lo⟩ (uS i q mk st n) = ⟨cS m, [uS i q mk st n], wh, lo⟩ := by simp [pushed, h1]
  have h3 : over ⟨cS m, [uS i q mk st n], wh, lo⟩ = b := by
    rw [hb]
    simp [over, cS, size, uS, zs_size]
  have h4 : refused ⟨cS m, [], wh, lo⟩ (uS i q mk st n) = false := by simp [refused, cS]
  have h5 : waits ⟨cS m, [], wh, lo⟩ (uS i q mk st n) = false := by simp [waits, cS]
  unfold putS putF putOk
  rw [h4, h2, h3, h5]
  cases b <;> simp [dropped]

/-- what Put leaves, in a world W that has come out of wr -/
structure SP (w wr W w3 : World) (p : Nat) (v' vr : Value) (q : Q) (l : List U) : Prop where
  at' : At w w3 p v' q
  row : Row w3 vr l
  far : ∀ nf, wr.heap.size ≤ nf → nf < W.heap.size → v'.ownBlock ≠ some nf ∧ vr.ownBlock ≠ some nf ∧ nf ≠ p ∧ w3.heap[nf]? = W.heap[nf]?

theorem put_sp (w : World) (p : Nat) (v : Value) (s : Q) (u : U) (k : Nat) (wr : World) (h : At w wr p v s) (hs : s.ok k) (hk : k ≤ 1000000) (hu : u.ok) (W : World) (hW : New wr W) :
    Calls Try.prog 16 #[.pointer (some ⟨p, 0, none⟩), .agg u.cs.toArray] W fun e w' => ∃ v' ao c, e = .returned (.tuple #[.agg #[.slice ao (putF s u).length c], .bool (putOk s u)]) ∧ SP w wr W w' p v' (.slice ao (putF s u).length c) (putS s u) (putF s u) := by
  have h' := h.new hW
  refine (putC p v s u k W h'.m hs hk hu).mono ?_
  rintro e w' ⟨v', vr, rfl, ht, hm, hr, hf, hg⟩
  have hsz := h'.n.size
  have hpl := h.m.lt
  have hvl := h.m.2.1.lt
  obtain ⟨ao, c, rfl, _⟩ := hr.form
  refine ⟨v', ao, c, rfl, ⟨⟨hm, ?_, h'.n.trans (ht.mono ?_), h.le⟩, hr, ?_⟩⟩
  · intro g hg
    rcases hf with f | f | ⟨g', f, hg'⟩
    · rw [f] at hg; cases hg
    · exact h.o g (by rw [← f]; exact hg)
    · rw [f] at hg; injection hg with hg; omega
  · intro j _ hj
    rcases hj with rfl | hj
    · exact .inr h.le
    · exact .inr (h.o j hj.symm)
  · intro nf h1 h2
    have key : ∀ x, From W v x → x.ownBlock ≠ some nf := by
      intro x hx e
      rcases hx with f | f | ⟨g', f, hg'⟩
      · rw [f] at e; cases e
      · rw [f] at e; have := hvl nf e; omega
      · rw [f] at e; injection e with e; omega
    exact ⟨key _ hf, key _ hg, by omega, ht.block nf h2 (by rintro (e | e); omega; have := hvl nf e.symm; omega)⟩

theorem SP.fcell {w wr W w3 : World} {p : Nat} {v' vr : Value} {q : Q} {l : List U} (h : SP w wr W w3 p v' vr q l) (nf : Nat) (h1 : wr.heap.size ≤ nf) (hb : Blk W nf #[.slice none 0 0] 34) :
    Blk w3 nf #[.slice none 0 0] 34 := by
  have := (h.far nf h1 hb.lt).2.2.2
  unfold Blk
  rw [this]
  exact hb
/-- the frame is stored into a block that was made ahead of the call -/
theorem SP.store {w wr W w3 : World} {p : Nat} {v' vr : Value} {q : Q} {l : List U} (h : SP w wr W w3 p v' vr q l) (nf : Nat) (h1 : wr.heap.size ≤ nf) (hb : Blk W nf #[.slice none 0 0] 34) (hn : w.heap.size ≤ wr.heap.size) :
    At w (w3.setCell ⟨nf, 0, none⟩ vr) p v' q ∧ (w3.setCell ⟨nf, 0, none⟩ vr).cell? ⟨nf, 0, none⟩ = some vr ∧ Row (w3.setCell ⟨nf, 0, none⟩ vr) vr l := by
  obtain ⟨f1, f2, f3, f4⟩ := h.far nf h1 hb.lt
  have ht : Turns (· = nf) w3 (w3.setCell ⟨nf, 0, none⟩ vr) := (Turns.refl (· = nf) _).setCell (.inl rfl) _
  refine ⟨⟨h.at'.m.turns ht (fun e => f3 e.symm) (fun g hg e => f1 (by rw [hg, e])), h.at'.o, h.at'.n.trans (ht.mono (fun k _ hk => .inr (by omega))), h.at'.le⟩, ((h.fcell nf h1 hb).set 0 vr).cell 0, h.row.turns ht (fun g hg e => f2 (by rw [hg, e]))⟩
/-- .. or behind it -/
theorem SP.alloc {w wr W w3 : World} {p : Nat} {v' vr : Value} {q : Q} {l : List U} (h : SP w wr W w3 p v' vr q l) :
    At w (w3.alloc (.cells #[vr] 34)) p v' q ∧ (w3.alloc (.cells #[vr] 34)).cell? ⟨w3.heap.size, 0, none⟩ = some vr ∧ Row (w3.alloc (.cells #[vr] 34)) vr l := by
  have ht : New w3 (w3.alloc (.cells #[vr] 34)) := (Turns.refl _ _).alloc _
  exact ⟨h.at'.new ht, (Blk.new w3 #[vr] _).cell 0, h.row.turns ht (fun _ _ h => h)⟩

theorem new_setAt {a w : World} (h : New a w) (p o : Nat) (u : Value) (hp : a.heap.size ≤ p) : New a (w.setCell ⟨p, o, none⟩ u) := h.setCell (p := ⟨p, o, none⟩) (.inr hp) u
theorem SP.fc1 {w wr W w3 : World} {p : Nat} {v' vr : Value} {q : Q} {l : List U} {o : Obj} (h : SP w wr W w3 p v' vr q l) (hW : W.heap = ((wr.alloc (.cells #[.slice none 0 0] 34)).alloc o).heap) :
    Blk W wr.heap.size #[.slice none 0 0] 34 ∧ w3.cell? ⟨wr.heap.size, 0, none⟩ = some (.slice none 0 0) ∧ w3.frozen? ⟨wr.heap.size, 0, none⟩ = false := by
  have hb : Blk W wr.heap.size #[.slice none 0 0] 34 := by
    unfold Blk; rw [hW]; exact (Blk.new wr #[.slice none 0 0] _).alloc o
  have := h.fcell _ (Nat.le_refl _) hb
  exact ⟨hb, this.cell 0, this.free 0⟩
theorem SP.fc2 {w wr W w3 : World} {p : Nat} {v' vr : Value} {q : Q} {l : List U} {o : Obj} (h : SP w wr W w3 p v' vr q l) (hW : W.heap = ((wr.alloc o).alloc (.cells #[.slice none 0 0] 34)).heap) :
    Blk W (wr.heap.size + 1) #[.slice none 0 0] 34 ∧ w3.cell? ⟨wr.heap.size + 1, 0, none⟩ = some (.slice none 0 0) ∧ w3.frozen? ⟨wr.heap.size + 1, 0, none⟩ = false := by
  have hb : Blk W (wr.heap.size + 1) #[.slice none 0 0] 34 := by
    have h2 := Blk.new (wr.alloc o) #[.slice none 0 0] 34
    rw [World.size_alloc] at h2
    unfold Blk; rw [hW]; exact h2
  have := h.fcell _ (by omega) hb
  exact ⟨hb, this.cell 0, this.free 0⟩

/-! ### the bytes -/
abbrev ZC (n : Nat) : Obj := .cells (madeCells #[.int .u8 0] (n * 1)) 5
abbrev FC0 : Obj := .cells #[.slice none 0 0] 34
theorem info8s : (Try.prog.info? 5).map (fun i => (i.zero, i.size, i.bytes)) = some (some (.int .u8 0), 1, 1) := by kernel_rfl
theorem make_is (n : Nat) (hn : n ≤ 100) (w : World) : (Instr.makeSlice 58 (.int .i64 (n : Int)) (.int .i64 (n : Int))).run Try.prog w = .ok (.slice (some ⟨w.heap.size, 0, none⟩) n n) (w.alloc (ZC n)) := by
  obtain ⟨i0, hi, hz0, hz1, hz2⟩ := info_parts info8s
  have h := run_make (P := Try.prog) w 58 5 i0 (.int .u8 0) Try.underlying58 hi hz0 .i64 .i64 n n (by omega) (Int.le_refl _) (by rw [hz2]; omega) (by omega)
  simp only [Int.toNat_natCast] at h
  rw [hz1] at h
  exact h
theorem zc_cell (n : Nat) (w : World) (B : Nat) (hb : w.heap[B]? = some (.cells (madeCells #[.int .u8 0] (n * 1)) 5 (0, 0))) (i : Nat) (hi : i < n) : w.cell? ⟨B, 0 + i, none⟩ = some (.int .u8 ((List.replicate n (0 : Int)).getD i 0)) := by
  rw [Nat.zero_add, cell_of_row w B i _ _ (0, 0) hb]
  have h1 : (madeCells #[.int .u8 0] (n * 1)).toList = List.replicate n (.int .u8 0) := by rw [Nat.mul_one, toList_madeCells_one]
  rw [← Array.getElem?_toList, h1]
  simp [hi, List.getD]
theorem strOf_zs (n : Nat) : strOfNums (List.replicate n 0) = zs n := by
  apply ByteArray.ext
  apply Array.ext'
  rw [strOfNums_data]
  simp [zs]
theorem conv_is (n : Nat) (w : World) (B : Nat) (hb : w.heap[B]? = some (.cells (madeCells #[.int .u8 0] (n * 1)) 5 (0, 0))) :
    (Go.convert 58 9 (.slice (some ⟨B, 0, none⟩) n n)).run Try.prog w = .ok (.string (zs n)) w := by
  rw [← strOf_zs]
  exact run_convert_bytes_arg w 58 5 Try.underlying58 (by kernel_rfl) B 0 n n (List.replicate n 0) (by simp) (zc_cell n w B hb) 9 Try.underlying9

abbrev HeldB (w0 w' : World) (b o : Nat) (c : Value) : Prop := New w0 w' ∧ w'.cell? ⟨b, o, none⟩ = some c
theorem heldB_of {w0 w' : World} {b o : Nat} {c : Value} (hb : b < w0.heap.size) (h0 : w0.cell? ⟨b, o, none⟩ = some c) (n : New w0 w') : HeldB w0 w' b o c := ⟨n, (n.cell (a := ⟨b, o, none⟩) hb (fun h => h)).trans h0⟩

theorem grown (q : Q) (m : Int) (k : Nat) (h : q.c = cS m) (ho : q.o = []) (hm : 1 ≤ m) (hm' : m ≤ 32) (h0 : 0 ≤ q.wh) (h1 : q.wh ≤ k) (l0 : 0 ≤ q.lo) (l1 : q.lo ≤ k) : q.ok k := by
  obtain ⟨c, o, wh, lo⟩ := q
  simp only at h ho h0 h1 l0 l1
  subst h
  subst ho
  exact ⟨hm, by show m ≤ _; omega, by show (1 : Int) ≤ 1; decide, by show (1 : Int) ≤ 1024; decide, by show (0 : Int) ≤ 3; decide, by show (3 : Int) ≤ _; decide, by show (0 : Int) ≤ 1; decide, by show (0 : Int) ≤ m; omega, by simp, h0, h1, l0, by simpa using l1⟩

set_option maxHeartbeats 4000000 in
set_option maxRecDepth 100000 in
theorem sounds_law (A : Option Addr) (N c : Nat) (z : Nat → Int) (m0 : Int) (w : World) (hz : args.IntRow .i64 w A N c z) (hm0 : -9223372036854775808 ≤ m0) (hm1 : m0 ≤ 9223372036854775807) :
    Calls Try.prog 7 #[.slice A N c, .int .i64 m0] w fun e w' => e = .returned (.bool true) ∧ Below w.heap.size w w' := by
  have M5 := mask.mask5 m0
  obtain ⟨m, hm⟩ : ∃ m, m = 1 + m0 % 32 := ⟨_, rfl⟩
  have hmb0 : 1 ≤ m := by omega
  have hmb1 : m ≤ 32 := by omega
  obtain ⟨hn, hwf, hcell⟩ := hz
  unfold maxLen at hn
  have hbd : ∀ i, i < N → -9223372036854775808 ≤ z i ∧ z i ≤ 9223372036854775807 := fun i hi => bounds_i64 (hwf i hi)
  have HB := Lib.hid hbd
  have HC := Lib.hid hcell
  clear hwf hcell hbd
  generalize hmm : m0 % 32 = mm at *
  have e0 : 1 + mm = m := hm.symm
  have s0 : wrap64 (1 + mm) = m := by rw [e0]; unfold wrap64; omega
  clear hmm hm
  have hnew := Lib.hid (new_at (cS m) · (by show 1 ≤ m ∧ m ≤ 1048576 ∧ (1 : Int) ≤ 1 ∧ (1 : Int) ≤ 1024 ∧ (0 : Int) ≤ 3 ∧ (3 : Int) ≤ 1099511627776; omega))
  go_enter Try.func7, Try.ntmps7
  go_wp2_with fail
  refine (awake w).mono ?_
  rintro e w1 ⟨rfl, n1⟩
  go_wp2_with fail
  refine (hnew.out w1).mono ?_
  rintro e w2 ⟨p, rfl, h2⟩
  have H2 : Hid (At w w2 p (.slice none 0 0) ⟨cS m, [], ((0 : Nat) : Int), ((0 : Nat) : Int)⟩) := Lib.hid ⟨h2.m, (fun g hg => by cases hg), n1.trans (h2.n.mono (fun _ _ h => h.elim)), Nat.le_trans n1.size h2.le⟩
  clear h2 hnew n1
  go_wp2_with fail
  go_loopw [7, 8, 9] (fun a' b' i' wr => ∃ (i wh lo : Nat) (v : Value), i ≤ N ∧ i ≤ 60 ∧ wh ≤ i ∧ lo ≤ i ∧ i' = .int .i64 i ∧ a' = .int .i64 wh ∧ b' = .int .i64 lo ∧ At w wr p v ⟨cS m, [], (wh : Int), (lo : Int)⟩) (fun _ _ i' _ => N - (intOf i').toNat)
  case atStart => exact ⟨0, 0, 0, _, Nat.zero_le _, by omega, by omega, by omega, rfl, rfl, rfl, H2.out⟩
  case round =>
    obtain ⟨i, wh, lo, v, hi, hi60, hwi, hli, rfl, rfl, rfl, hat⟩ := hrel
    clear H2
    have HA := Lib.hid hat
    have hle := hat.n.size
    clear hat
    by_cases hgo : i < N ∧ i < 60
    · obtain ⟨hlt, hlt2⟩ := hgo
      obtain ⟨b, off, rfl, hb, hcell⟩ := HC.out.resolve_left (by omega)
      have hd60 : decide ((i : Int) < 60) = true := by simp; omega
      have hck := hcell i hlt
      have hh : HeldB w wr b (off + i) (.int .i64 (z i)) := heldB_of hb hck HA.out.n
      have hck1 := hh.2
      have HC2 := Lib.hid hck
      have M6 := mask.mask6 (z i)
      obtain ⟨n, hn6⟩ : ∃ n : Nat, (n : Int) = z i % 64 := ⟨(z i % 64).toNat, by omega⟩
      have nb : n ≤ 63 := by omega
      rw [← hn6] at M6
      obtain ⟨q, hq⟩ : ∃ q, q = (i : Int).tdiv 2 := ⟨_, rfl⟩
      have hqb : 0 ≤ q ∧ q ≤ 60 := by rw [hq, Int.tdiv_eq_ediv_of_nonneg (by omega)]; omega
      obtain ⟨hq0, hq1⟩ := hqb
      obtain ⟨mk, hmk⟩ : ∃ mk, mk = decide (0 < bits .and .i64 (z i) 64) := ⟨_, rfl⟩
      obtain ⟨st, hst⟩ : ∃ st, st = decide (0 < bits .and .i64 (z i) 128) := ⟨_, rfl⟩
      obtain ⟨ov, hov⟩ : ∃ ov, ov = decide (m < n) := ⟨_, rfl⟩
      have kn : (i : Int) < (N : Int) := by omega
      have k0 : (0 : Int) ≤ (i : Int) := by omega
      have s1 : IntKind.i64.wrap (i : Int) = i := IntWalk.i64_in _ (by omega)
      have s5 : IntKind.i64.wrap (5 * (i : Int)) = 5 * i := IntWalk.i64_in _ (by omega)
      have s6 : wrap64 q = q := by unfold wrap64; omega
      have hok := grown ⟨cS m, [], (wh : Int), (lo : Int)⟩ m 100 rfl rfl hmb0 hmb1 (by simp) (by simp; omega) (by simp) (by simp; omega)
      have huo := uS_ok i q mk st n (by omega) hq0 (by omega) (by omega)
      obtain ⟨P1, P2, P3⟩ := uS_put m wh lo i q mk st n ov hov
      have HP : Hid (∀ W, New wr W → Calls Try.prog 16 #[.pointer (some ⟨p, 0, none⟩), .agg #[.int .i64 (5 * i), .int .i64 q, .bool mk, .bool st, .bool false, .string (zs n), .int .i64 0]] W fun e w' => ∃ v' ao c, e = .returned (.tuple #[.agg #[.slice ao (if ov = true then 0 else 1) c], .bool (!ov)]) ∧ SP w wr W w' p v' (.slice ao (if ov = true then 0 else 1) c) (if ov = true then ⟨cS m, [], wh, lo + 1⟩ else ⟨cS m, [], wh + 1, lo⟩) (if ov = true then [] else [uS i q mk st n])) := Lib.hid (fun W hW => by
        have h := put_sp w p v ⟨cS m, [], (wh : Int), (lo : Int)⟩ (uS i q mk st n) 100 wr HA.out hok (by omega) huo W hW
        rw [P1, P2, P3] at h
        have hl : (if ov = true then [] else [uS i q mk st n]).length = (if ov = true then 0 else 1) := by split <;> rfl
        rw [hl] at h
        exact h)
      have HMK := Lib.hid hmk
      have HST := Lib.hid hst
      have HOV := Lib.hid hov
      have HQ := Lib.hid hq
      have HHH := Lib.hid hh
      have hmake := make_is n (by omega)
      have hc1 : (Go.convert 58 9 (.slice (some ⟨wr.heap.size, 0, none⟩) n n)).run Try.prog (wr.alloc (ZC n)).drew = .ok (.string (zs n)) (wr.alloc (ZC n)).drew := conv_is n _ _ (heap_alloc_new wr _)
      have hc2 : (Go.convert 58 9 (.slice (some ⟨wr.heap.size, 0, none⟩) n n)).run Try.prog ((wr.alloc (ZC n)).alloc FC0).drew = .ok (.string (zs n)) ((wr.alloc (ZC n)).alloc FC0).drew := conv_is n _ _ ((Below.heap_alloc (wr.alloc (ZC n)) FC0 wr.heap.size (by rw [World.size_alloc]; omega)).trans (heap_alloc_new wr _))
      have hc3 : (Go.convert 58 9 (.slice (some ⟨wr.heap.size + 1, 0, none⟩) n n)).run Try.prog ((wr.alloc FC0).alloc (ZC n)).drew = .ok (.string (zs n)) ((wr.alloc FC0).alloc (ZC n)).drew := conv_is n _ _ (by have := heap_alloc_new (wr.alloc FC0) (ZC n); rw [World.size_alloc] at this; exact this)
      clear hcell hck P1 P2 P3 hok huo hmk hst hov hq hh hn6
      generalize hLL : (if ov = true then 0 else 1) = LL at *
      unfold ZC at hmake hc1 hc2 hc3
      unfold FC0 at hc2 hc3
      generalize madeCells #[.int .u8 0] (n * 1) = zc at *
      have HKE := Lib.hid hmake
      clear hmake
      go_upto_region 12 with fail
      go_cut [11, 12] (fun v11 v12 wx => ∃ (pf : Nat) (v' : Value) (ao : Option Addr) (c : Nat), v11 = .pointer (some ⟨pf, 0, none⟩) ∧ v12 = .bool (!ov) ∧ At w wx p v' (if ov = true then ⟨cS m, [], wh, lo + 1⟩ else ⟨cS m, [], wh + 1, lo⟩) ∧ wx.cell? ⟨pf, 0, none⟩ = some (.slice ao LL c) ∧ Row wx (.slice ao LL c) (if ov = true then [] else [uS i q mk st n]))
      case first =>
        have hmake := HKE.out
        have kq : (i : Int).tdiv 2 = q := HQ.out.symm
        have kmk : decide (0 < bits .and .i64 (z i) 64) = mk := HMK.out.symm
        have kst : decide (0 < bits .and .i64 (z i) 128) = st := HST.out.symm
        have s7 : IntKind.i64.wrap q = q := IntWalk.i64_in _ (by omega)
        generalize (if ov = true then (⟨cS m, [], wh, lo + 1⟩ : Q) else ⟨cS m, [], wh + 1, lo⟩) = QQ at *
        generalize (if ov = true then [] else [uS i q mk st n]) = l at *
        have hle2 := hle
        go_region_held (fun w' => New w w' ∧ w'.cell? ⟨b, off + i, none⟩ = some (.int .i64 (z i)))
          (first
            | (with_reducible assumption)
            | ((with_reducible refine heldB_of hb HC2.out ?_); (repeat (first | (with_reducible refine Turns.alloc ?_ _) | (with_reducible refine Turns.drew ?_))); exact HA.out.n)
            | ((with_reducible refine heldB_of hb HC2.out ?_); (repeat (first | (with_reducible refine Turns.alloc ?_ _) | (with_reducible refine Turns.drew ?_) | (with_reducible refine new_setAt ?_ _ _ _ (by omega)))); exact sp.at'.n))
          ((go_at_call 16; (with_reducible refine Calls.mono (HP.out _ ?_) ?_); ((repeat (first | (with_reducible refine Turns.alloc ?_ _) | (with_reducible refine Turns.drew ?_))); exact Turns.refl _ _); rintro e w3 ⟨v', ao, c', rfl, sp⟩; (first | (have hf := sp.fc1 rfl; obtain ⟨fb, f0, f1⟩ := hf) | (have hf := sp.fc2 rfl; obtain ⟨fb, f0, f1⟩ := hf) | skip)))
        all_goals
          go_wp2_with fail
          go_meet
          case rel => first
            | exact ⟨_, _, _, _, rfl, rfl, sp.alloc.1, sp.alloc.2.1, sp.alloc.2.2⟩
            | (have sto := sp.store _ (by omega) fb hle; exact ⟨_, _, _, _, rfl, rfl, sto.1, sto.2.1, sto.2.2⟩)
      case rest =>
        obtain ⟨pf, v', ao, c2, rfl, rfl, hat4, hc4, hr4⟩ := hcut
        clear hc1 hc2 hc3 HKE HP HA hck1 HHH HC2
        have hdo : decide ((n : Int) ≤ m) = !ov := by
          rw [HOV.out]
          by_cases h : m < (n : Int)
          · have h2 : ¬ ((n : Int) ≤ m) := by omega
            simp [h, h2]
          · have h2 : (n : Int) ≤ m := by omega
            simp [h, h2]
        clear HOV HMK HST HQ
        cases ov
        · simp only [Bool.false_eq_true, if_false, Bool.not_false] at *
          subst hLL
          have hA4 := Lib.hid hat4
          have hR4 := Lib.hid hr4
          have hsz : ((size [uS i q mk st n] : Nat) : Int) = (n : Int) := by simp [size, uS, zs_size]
          have HZ := Lib.hid (fun w h => sizeC (.slice ao 1 c2) [uS i q mk st n] w h (by simp) (by simp [size, uS, zs_size]; omega))
          rw [hsz] at HZ
          clear hat4 hr4 hsz
          go_wp2_with fail
          refine (HZ.out wc hR4.out).mono ?_
          rintro e w5 ⟨rfl, n5⟩
          have H5 := Lib.hid (hA4.out.new n5)
          clear HZ hA4 hR4 n5 hc4
          go_wp2_with fail
          refine (openC p _ _ w5 H5.out.m).mono ?_
          rintro e w6 ⟨rfl, rfl⟩
          go_wp2
          go_roundw
          case rel => exact ⟨i + 1, wh + 1, lo, _, by omega, by omega, by omega, by omega, by go_num, by go_num, by go_num, by rw [show ((wh + 1 : Nat) : Int) = (wh : Int) + 1 by omega]; exact H5.out⟩
          case measure => simp [intOf]; omega
        · simp only [if_true, Bool.not_true] at *
          subst hLL
          have hA4 := Lib.hid hat4
          clear hat4 hr4 hc4
          go_wp2_with fail
          refine (openC p _ _ wc hA4.out.m).mono ?_
          rintro e w6 ⟨rfl, rfl⟩
          go_wp2
          go_roundw
          case rel => exact ⟨i + 1, wh, lo + 1, _, by omega, by omega, by omega, by omega, by go_num, by go_num, by go_num, by rw [show ((lo + 1 : Nat) : Int) = (lo : Int) + 1 by omega]; exact hA4.out⟩
          case measure => simp [intOf]; omega
    · have HCnt := Lib.hid (countsC p v _ wr HA.out.m)
      have hN := Lib.hid HA.out.n
      clear HB HC HA
      by_cases hlt : i < N
      all_goals
        go_wp2_with fail
        refine HCnt.out.mono ?_
        rintro e w3 ⟨rfl, n3⟩
        go_wp2
        go_ret
        exact ⟨rfl, (hN.out.trans (n3.mono (fun _ _ h => h.elim))).below (Nat.le_refl _) (fun _ _ h => h.elim)⟩
end Go.Proofs.Ytmfknefihjjgoaa.frm
