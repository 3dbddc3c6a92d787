/-
  RewriteStream: what is sent, without a walk.
-/
import Derived.Test.YtijpgkkhjjpjoaaRewKeeps
import Derived.Test.YtijpgkkhjjpjoaaSerial
namespace Go.Proofs.Ytijpgkkhjjpjoaa.rew
open Go.RowKit mem
open Go.Proofs.Ytijpgkkhjjpjoaa.args (Wact StrsAt)
set_option linter.unusedVariables false

abbrev M32 : Int := 4294967296
theorem packs_all (t : Int) (L : List U) : ∀ (q : O) (j : Nat) (x : K), 0 ≤ q.seq → q.seq ≤ 65535 → (packs q t L)[j]? = some x → x.ssrc = q.ssrc ∧ x.kind = q.kind ∧ x.time = t ∧ x.seq = (q.seq + j) % 65536 := by
  induction L with
  | nil => intro q j x _ _ h; simp [packs] at h
  | cons u l ih =>
    intro q j x h0 h1 h
    cases j with
    | zero =>
      simp [packs] at h
      subst h
      exact ⟨rfl, rfl, rfl, by show q.seq = _; omega⟩
    | succ j =>
      have e : (packO q u).seq = (q.seq + 1) % 65536 := w16 _
      have := ih (packO q u) j x (by rw [e]; omega) (by rw [e]; omega) (by simpa [packs] using h)
      rw [e] at this
      refine ⟨this.1, this.2.1, this.2.2.1, ?_⟩
      rw [this.2.2.2]; omega
theorem packsO_seq (L : List U) : ∀ q : O, 0 ≤ q.seq → q.seq ≤ 65535 → (packsO q L).seq = (q.seq + L.length) % 65536 := by
  induction L with
  | nil => intro q h0 h1; show q.seq = _; simp; omega
  | cons u l ih =>
    intro q h0 h1
    have e : (packO q u).seq = (q.seq + 1) % 65536 := w16 _
    have := ih (packO q u) (by rw [e]; omega) (by rw [e]; omega)
    show (packsO (packO q u) l).seq = _
    rw [this, e, List.length_cons]; omega
theorem made_t (z : Wact) (t : Int) (k j : Nat) (u : U) (h : (madeL z t k)[j]? = some u) : u.t = t := by
  induction k with
  | zero => simp [madeL] at h
  | succ k ih =>
    rw [madeL] at h
    by_cases hj : j < (madeL z t k).length
    · rw [List.getElem?_append_left hj] at h; exact ih h
    · rw [List.getElem?_append_right (by omega)] at h
      cases hh : j - (madeL z t k).length with
      | zero => rw [hh] at h; simp at h; subst h; rfl
      | succ n => rw [hh] at h; simp at h
theorem mid_keep (o : O) (s : Int) (u : U) : (midO o s u).ssrc = o.ssrc ∧ (midO o s u).kind = o.kind ∧ (midO o s u).seq = o.seq ∧ (midO o s u).lat = (timeO o s u.t).lat ∧ (midO o s u).sh = (timeO o s u.t).sh ∧ (midO o s u).src = (timeO o s u.t).src := by
  unfold midO countO levO
  have a : (timeO o s u.t).ssrc = o.ssrc ∧ (timeO o s u.t).kind = o.kind ∧ (timeO o s u.t).seq = o.seq := by unfold timeO; split; exact ⟨rfl, rfl, rfl⟩; split <;> exact ⟨rfl, rfl, rfl⟩
  split
  · split <;> exact ⟨a.1, a.2.1, a.2.2, rfl, rfl, rfl⟩
  · exact ⟨a.1, a.2.1, a.2.2, rfl, rfl, rfl⟩

/-- what all the packets are -/
structure Good (sq : Int) (ks : List K) : Prop where
  each : ∀ (i : Nat) (x : K), ks[i]? = some x → x.ssrc = 7 ∧ x.kind = 96 ∧ x.seq = (sq + i) % 65536 ∧ 0 ≤ x.time ∧ x.time < M32
  next : ∀ (i : Nat) (x y : K), ks[i]? = some x → ks[i + 1]? = some y → 0 ≤ ser.sd M32 y.time x.time
/-- what is known of a stream behind the packets ks -/
structure Sd (lo hi : Int) (sq : Int) (ks : List K) (o : O) : Prop where
  g : Good sq ks
  v : o.v = true
  ss : o.ssrc = 7
  kd : o.kind = 96
  sqn : o.seq = (sq + ks.length) % 65536
  f0 : 0 ≤ o.fr
  none : ks = [] → o.fr = 0
  some : ks ≠ [] → 0 < o.fr ∧ lo ≤ o.lat ∧ o.lat ≤ hi ∧ ∀ x, ks[ks.length - 1]? = some x → x.time = shV o o.lat

theorem sd_self (a : Int) : ser.sd M32 a a = 0 := by unfold ser.sd M32; split <;> omega
theorem good_app {sq : Int} {ks ms : List K} {t : Int} (h : Good sq ks) (hm : ∀ (j : Nat) (x : K), ms[j]? = some x → x.ssrc = 7 ∧ x.kind = 96 ∧ x.time = t ∧ x.seq = (sq + ks.length + j) % 65536) (t0 : 0 ≤ t) (t1 : t < M32)
    (hl : ∀ x, ks[ks.length - 1]? = some x → ks ≠ [] → 0 ≤ ser.sd M32 t x.time) : Good sq (ks ++ ms) := by
  refine ⟨fun i x hx => ?_, fun i x y hx hy => ?_⟩
  · by_cases hi : i < ks.length
    · rw [List.getElem?_append_left hi] at hx; exact h.each i x hx
    · rw [List.getElem?_append_right (by omega)] at hx
      obtain ⟨a, b, c, d⟩ := hm _ x hx
      refine ⟨a, b, ?_, by omega, by omega⟩
      rw [d]
      have : (ks.length : Int) + ((i - ks.length : Nat) : Int) = (i : Int) := by omega
      rw [Int.add_assoc, this]
  · by_cases hi : i + 1 < ks.length
    · rw [List.getElem?_append_left (by omega)] at hx
      rw [List.getElem?_append_left hi] at hy
      exact h.next i x y hx hy
    · rw [List.getElem?_append_right (by omega)] at hy
      have hyt := (hm _ y hy).2.2.1
      by_cases hi2 : i < ks.length
      · rw [List.getElem?_append_left hi2] at hx
        have : i = ks.length - 1 := by omega
        subst this
        rw [hyt]
        exact hl x hx (by intro e; rw [e] at hi2; simp at hi2)
      · rw [List.getElem?_append_right (by omega)] at hx
        rw [hyt, (hm _ x hx).2.2.1, sd_self]
        exact Int.le_refl 0

theorem sd_frame {lo hi lo' hi' sq : Int} {ks : List K} {o : O} (h : Sd lo hi sq ks o) (hsq : 0 ≤ sq) (s : Int) (L : List U) (T : Int) (hT : ∀ (j : Nat) (u : U), L[j]? = some u → u.t = T) (hlo : lo' ≤ lo) (hhi : hi ≤ hi') (T0 : lo' ≤ T) (T1 : T ≤ hi') (hd : hi' - lo' < 2147483648) (h0 : 0 ≤ lo') (q0 : 0 ≤ o.seq) (q1 : o.seq ≤ 65535) :
    Sd lo' hi' sq (ks ++ frameK o s L) (frameO o s L) := by
  cases L with
  | nil =>
    have e : ks ++ frameK o s [] = ks := List.append_nil _
    rw [e]
    exact ⟨h.g, h.v, h.ss, h.kd, h.sqn, h.f0, h.none, fun hk => by have := h.some hk; exact ⟨this.1, Int.le_trans hlo this.2.1, Int.le_trans this.2.2.1 hhi, this.2.2.2⟩⟩
  | cons u l =>
    have hu : u.t = T := hT 0 u rfl
    have mk := mid_keep o s u
    have hK : frameK o s (u :: l) = packs (midO o s u) (timeV o s T) (u :: l) := by rw [← hu]; rfl
    have hall := packs_all (timeV o s T) (u :: l) (midO o s u)
    rw [mk.1, mk.2.1, mk.2.2.1, h.ss, h.kd] at hall
    have keep := packs_keep (u :: l) (midO o s u)
    have hO : ∀ q, q = packsO (midO o s u) (u :: l) → frameO o s (u :: l) = { q with fr := o.fr + 1 } := fun q hq => by rw [hq]; rfl
    have tv : timeV o s T = shV (timeO o s T) (timeO o s T).lat := by
      unfold timeV
      split
      · rename_i hl; unfold timeO; rw [if_pos hl]; rfl
      · rename_i hl; unfold timeO; rw [if_neg hl]; split <;> rfl
    have tr : 0 ≤ timeV o s T ∧ timeV o s T < M32 := by rw [tv]; unfold shV M32; omega
    have latb : lo' ≤ (timeO o s T).lat ∧ (timeO o s T).lat ≤ hi' := by
      unfold timeO
      split
      · rename_i hl
        have hf : 0 < o.fr := by unfold lastB at hl; simp at hl; exact hl.1
        have hk : ks ≠ [] := fun e => by have := h.none e; omega
        have := h.some hk
        simp only; omega
      · split <;> simp only <;> omega
    have hne : ks ++ frameK o s (u :: l) ≠ [] := by
      intro e
      have := congrArg List.length e
      rw [List.length_append, frameK_len] at this
      simp at this
    have hlenK : (frameK o s (u :: l)).length = (u :: l).length := frameK_len _ _ _
    refine ⟨?_, ?_, ?_, ?_, ?_, ?_, fun e => absurd e hne, fun _ => ?_⟩
    · rw [hK]
      refine good_app (t := timeV o s T) h.g (fun j x hx => ?_) tr.1 tr.2 (fun x hx hk => ?_)
      · have := hall j x q0 q1 hx
        refine ⟨this.1, this.2.1, this.2.2.1, ?_⟩
        rw [this.2.2.2, h.sqn]; omega
      · obtain ⟨hf, l0, l1, hx2⟩ := h.some hk
        rw [hx2 x hx]
        unfold timeV
        split
        · unfold shV ser.sd M32; split <;> omega
        · rename_i hl
          unfold timeO
          rw [if_neg hl, if_pos hf]
          unfold shV ser.sd M32
          simp only
          split <;> omega
    · rw [hO _ rfl]; show (packsO (midO o s u) (u :: l)).v = true
      rw [keep.1]
      have a : (timeO o s u.t).v = true := by unfold timeO; split; exact h.v; split <;> exact h.v
      unfold midO countO levO
      split
      · split <;> exact a
      · exact a
    · rw [hO _ rfl]; show (packsO (midO o s u) (u :: l)).ssrc = 7
      rw [keep.2.2.2.2.2.2.1, mk.1, h.ss]
    · rw [hO _ rfl]; show (packsO (midO o s u) (u :: l)).kind = 96
      rw [keep.2.2.2.2.2.2.2, mk.2.1, h.kd]
    · rw [hO _ rfl]; show (packsO (midO o s u) (u :: l)).seq = _
      rw [packsO_seq _ _ (by rw [mk.2.2.1]; exact q0) (by rw [mk.2.2.1]; exact q1), mk.2.2.1, h.sqn, List.length_append, hlenK]
      omega
    · rw [hO _ rfl]; show 0 ≤ o.fr + 1; have := h.f0; omega
    · have e1 : (frameO o s (u :: l)).lat = (timeO o s T).lat := by
        rw [hO _ rfl]; show (packsO (midO o s u) (u :: l)).lat = _
        rw [keep.2.2.2.2.1, mk.2.2.2.1, hu]
      have e2 : (frameO o s (u :: l)).sh = (timeO o s T).sh := by
        rw [hO _ rfl]; show (packsO (midO o s u) (u :: l)).sh = _
        rw [keep.2.2.2.2.2.1, mk.2.2.2.2.1, hu]
      refine ⟨by rw [hO _ rfl]; show 0 < o.fr + 1; have := h.f0; omega, by rw [e1]; exact latb.1, by rw [e1]; exact latb.2, fun x hx => ?_⟩
      have e3 : shV (frameO o s (u :: l)) (frameO o s (u :: l)).lat = shV (timeO o s T) (timeO o s T).lat := by unfold shV; rw [e1, e2]
      rw [e3, ← tv]
      have hlast : (ks ++ frameK o s (u :: l)).length - 1 = ks.length + l.length := by rw [List.length_append, hlenK, List.length_cons]; omega
      rw [hlast, List.getElem?_append_right (by omega)] at hx
      rw [hK] at hx
      exact (hall _ x q0 q1 hx).2.2.1
end Go.Proofs.Ytijpgkkhjjpjoaa.rew
